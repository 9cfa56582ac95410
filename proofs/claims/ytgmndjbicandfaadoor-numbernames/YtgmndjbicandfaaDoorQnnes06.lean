/-
  The library's contracts at this program: strconv, strings.
  Contracts of the token's reference: May, Form.
  Contracts of the token's reference: Join.
  What the library's Atoi, Count, LastIndexByte, IndexByte tell, in the words of stage 9. No Go in sight.
  The variables that the program's token reads: the words, the library's ErrRange.
  Contracts of the program's token: bytes, words.
  Contracts of the program's token: names, May, spelt.
  Contract of the program's Join.
-/
import Derived.Shelf.Small.Strs
import Derived.Lib.LaidTab
import Derived.Lib.ItoaNum
import Derived.Test.YtgmndjbicandfaaDoorQnnes00
import Derived.Lib.AppendIntMem
import Derived.Lib.ItoaLen
import Derived.Lib.AtoiAll
import Derived.Lib.Bytealg
import Derived.Lib.LastIndexByte
import Derived.Stop.LaidErr
import Derived.Lib.AppendStr
import Derived.Laws.IdiomStrings
set_option maxRecDepth 100000
set_option maxHeartbeats 16000000
namespace Go.Proofs.YtgmndjbicandfaaDoor
open Go.RowKit Go.Shelf
def renSidx : Go.Shelf.Ren := ⟨fun | 137 => 87 | 217 => 90 | 266 => 91 | n => n, fun | 9 => 9 | 5 => 5 | 3 => 3 | n => n, fun | n => n⟩
theorem laySidx : Go.Proofs.Lays.n137 Tryd.prog renSidx := {
 mixed := by kernel_rfl
 f137 := Tryd.func87.trans (congrArg some (by kernel_rfl))
 f217 := Tryd.func90.trans (congrArg some (by kernel_rfl))
 f266 := Tryd.func91.trans (congrArg some (by kernel_rfl))
 t3 := Tryd.underlying3
 a3 := Tryd.isAgg3
 z3 := Tryd.sizeOf3
 v3 := Tryd.zeroValue3
 t5 := Tryd.underlying5
 a5 := Tryd.isAgg5
 z5 := Tryd.sizeOf5
 v5 := Tryd.zeroValue5
 t9 := Tryd.underlying9
 a9 := Tryd.isAgg9
 z9 := Tryd.sizeOf9
 v9 := Tryd.zeroValue9 }
theorem sidx_raw (w : World) (s : ByteArray) (c : Int) : Calls Tryd.prog 87 #[.string s, .int .u8 c] w fun e w' => e = .returned (.int .i64 (Lib.indexByte s.data.toList c.toNat.toUInt8)) ∧ w' = w := Any.strings_IndexByte laySidx s c w
open Go.RowKit
/-- May a token be? -/
def mayB (v : TV) : Bool :=
 if v.k = 1 then decide (v.n = 0) && isN v.tx
 else if v.k = 2 then decide (v.n = 0) && isW v.tx
 else if v.k = 3 then decide (v.tx.size = 0) && (decide (0 ≤ v.n) && decide (v.n ≤ 2147483647))
 else if v.k = 4 then decide (v.n = 0) && (decide (v.tx.size = 1) && isS (tb v.tx 0))
 else false
/-- A token's text. -/
def frm (v : TV) : ByteArray := if v.k = 3 then ⟨(Lib.itoa v.n).toArray⟩ else v.tx
/-- A token's numbers are those of Go. -/
structure TvOk (v : TV) : Prop where
 k8 : v.k < 256
 tx47 : v.tx.size ≤ 140737488351232
 n1 : -9223372036854775808 ≤ v.n
 n2 : v.n ≤ 9223372036854775807
theorem tl_nil {x : ByteArray} : (x.toList == []) = decide (x.size = 0) := by
 rw [ByteArray.toList_eq]
 obtain ⟨⟨l⟩⟩ := x
 cases l with
 | nil => rfl
 | cons a l => rfl
open Go.RowKit
open Go.RowKit
theorem sign_idx : ∀ c, c < 256 → decide (0 ≤ Lib.indexByte [61, 59, 44, 40, 41, 91, 93, 43, 45, 42, 47, 37] c.toUInt8) = isS c := by decide +kernel
open Go.RowKit
/-- An array of texts that reads as a list holds these texts, cell for cell. -/
theorem qbi {H : Type} {enc : TypeId × Value → H} {P : Program} {w : World} {base : Nat} {sp : Nat → Bool} {held : Bool} {fuel : Nat} {t e : TypeId} {n : Nat} {cs : List Value} {zs : List (List UInt8)} {p : List MemPlace}
  (ht : P.underlying t = some (.array n e)) (he : P.underlying e = some .string) (hce : P.cellsOf e = 1) (hct : P.cellsOf t = n)
  (h : DataW.trod enc P w base sp held fuel t cs = some (.agg (zs.map fun z => .lit (.string z)), p)) : cs = zs.map fun z => Value.string ⟨z.toArray⟩ := by
 cases fuel with
 | zero => simp [DataW.trod] at h
 | succ fuel =>
  simp only [DataW.trod, ht, hce, hct, Nat.mul_one] at h
  split at h
  ·rename_i hl
   obtain ⟨xs, hm, hx⟩ := Option.map_eq_some_iff.1 h
   have hxs : xs.map (·.1) = zs.map fun z => (DataW.lit (.string z) : DataW H) := by
    have := congrArg Prod.fst hx
    simpa using this
   have hxl : xs.length = n := by simpa using Lib.mapM_length hm
   have hzl : zs.length = n := by
    have := congrArg List.length hxs
    simp at this
    omega
   apply List.ext_getElem?
   intro i
   by_cases hi : i < n
   ·obtain ⟨b, hb, hf⟩ := Lib.mapM_at hm i i (by simp [hi])
    obtain ⟨z, hc, hd, _⟩ := DataW.trod_string he hf
    have h1 : cs[i]? = some (.string z) := by
     have := congrArg (·[0]?) hc
     simpa [List.getElem?_take, List.getElem?_drop] using this
    have h2 : (xs.map (·.1))[i]? = some (DataW.lit (.string z.data.toList) : DataW H) := by simp [hb, hd]
    rw [hxs] at h2
    simp only [List.getElem?_map, Option.map_eq_some_iff, DataW.lit.injEq, Lit.string.injEq] at h2
    obtain ⟨z', hz', rfl⟩ := h2
    simp [h1, hz']
   ·rw [List.getElem?_eq_none (by omega), List.getElem?_eq_none (by simp; omega)]
  ·cases h
/-- The words lie in their variable. -/
def Wt9 (w : World) : Prop := w.var? Tryd.prog "recoup/token.words" = some (wds.map Value.string).toArray
theorem qdq {P : Program} {w w' : World} {nm : String} {cs : Array Value} (h : w.var? P nm = some cs) (hb : Below w.heap.size w w') : w'.var? P nm = some cs := by
 unfold World.var? at *
 cases hg : P.globalNamed nm with
 | none => rw [hg] at h; cases h
 | some g =>
  rw [hg] at h
  simp only [Option.bind_some] at h ⊢
  have hlt : g < w.heap.size := by
   rcases Nat.lt_or_ge g w.heap.size with x | x
   ·exact x
   ·rw [Array.getElem?_eq_none x] at h; cases h
  rw [hb.block g hlt]
  exact h
theorem Wt9.later {w w' : World} (h : Wt9 w) (hb : Below w.heap.size w w') : Wt9 w' := qdq h hb
open Go.RowKit
theorem qd8 (w : World) (c : Nat) (hc : c < 256) : Calls Tryd.prog 89 #[.int .u8 (c : Int)] w fun e w' => e = .returned (.bool (isD c)) ∧ w = w' := by
 by_cases h1 : 48 ≤ c
 ·by_cases h2 : c ≤ 57
  ·rw [isD_t ⟨h1, h2⟩]
   have q : decide ((c : Int) ≤ 57) = true := decide_eq_true (by omega)
   go_enter Tryd.func89, Tryd.ntmps89
   go_wp2
   go_ret
   exact ⟨rfl, rfl⟩
  ·rw [isD_f (fun h => h2 h.2)]
   have q : decide ((c : Int) ≤ 57) = false := decide_eq_false (by omega)
   go_enter Tryd.func89, Tryd.ntmps89
   go_wp2
   go_ret
   exact ⟨rfl, rfl⟩
 ·rw [isD_f (fun h => h1 h.1)]
  go_enter Tryd.func89, Tryd.ntmps89
  go_wp2
  go_ret
  exact ⟨rfl, rfl⟩
/-- A byte that may stand in a name. -/
def inN (c : Nat) (f : Bool) : Bool := if isD c then !f else isL c
theorem qcf (w : World) (c : Nat) (f : Bool) (hc : c < 256) : Calls Tryd.prog 86 #[.int .u8 (c : Int), .bool f] w fun e w' => e = .returned (.bool (inN c f)) ∧ w = w' := by
 have HD : Hid (∀ w' : World, Calls Tryd.prog 89 #[.int .u8 (c : Int)] w' fun e w'' => e = .returned (.bool (isD c)) ∧ w' = w'') := fun w' => qd8 w' c hc
 cases hd : isD c with
 | true =>
  rw [hd] at HD
  cases f with
  | true =>
   rw [show inN c true = false by unfold inN; rw [hd]; rfl]
   go_enter Tryd.func86, Tryd.ntmps86
   go_wp2_with (go_at_call 89; refine (HD.out _).mono ?_; rintro e w' ⟨rfl, rfl⟩)
   go_ret
   exact ⟨rfl, rfl⟩
  | false =>
   rw [show inN c false = true by unfold inN; rw [hd]; rfl]
   go_enter Tryd.func86, Tryd.ntmps86
   go_wp2_with (go_at_call 89; refine (HD.out _).mono ?_; rintro e w' ⟨rfl, rfl⟩)
   go_ret
   exact ⟨rfl, rfl⟩
 | false =>
  rw [hd] at HD
  rw [show inN c f = isL c by unfold inN; rw [hd]; rfl]
  clear hd
  by_cases h1 : 97 ≤ c
  ·by_cases h2 : c ≤ 122
   ·rw [isL_t ⟨h1, h2⟩]
    have q : decide ((c : Int) ≤ 122) = true := decide_eq_true (by omega)
    go_enter Tryd.func86, Tryd.ntmps86
    go_wp2_with (go_at_call 89; refine (HD.out _).mono ?_; rintro e w' ⟨rfl, rfl⟩)
    go_ret
    exact ⟨rfl, rfl⟩
   ·rw [qdm (fun h => h2 h.2)]
    have q : decide ((c : Int) ≤ 122) = false := decide_eq_false (by omega)
    go_enter Tryd.func86, Tryd.ntmps86
    go_wp2_with (go_at_call 89; refine (HD.out _).mono ?_; rintro e w' ⟨rfl, rfl⟩)
    go_ret
    exact ⟨rfl, rfl⟩
  ·rw [qdm (fun h => h1 h.1)]
   go_enter Tryd.func86, Tryd.ntmps86
   go_wp2_with (go_at_call 89; refine (HD.out _).mono ?_; rintro e w' ⟨rfl, rfl⟩)
   go_ret
   exact ⟨rfl, rfl⟩
theorem qbb (c : Nat) : inN c true = isL c := by
 unfold inN
 cases hd : isD c with
 | false => rfl
 | true =>
  have := qdk.1 hd
  rw [qdm (by omega)]
  rfl
theorem qco (c : Nat) : inN c false = (isD c || true && isL c) := by
 unfold inN
 cases hd : isD c <;> cases hl : isL c <;> rfl
theorem qdr (w : World) (c : Nat) (hc : c < 256) : Calls Tryd.prog 79 #[.int .u8 (c : Int)] w fun e w' => e = .returned (.bool (isS c)) ∧ w = w' := by
 obtain ⟨i, HI⟩ : ∃ i : Int, Hid (Lib.indexByte [61, 59, 44, 40, 41, 91, 93, 43, 45, 42, 47, 37] c.toUInt8 = i) := ⟨_, rfl⟩
 have HD : Hid (∀ w' : World, Calls Tryd.prog 87 #[.string ⟨#[61, 59, 44, 40, 41, 91, 93, 43, 45, 42, 47, 37]⟩, .int .u8 (c : Int)] w' fun e w'' => e = .returned (.int .i64 i) ∧ w' = w'') := fun w' => (sidx_raw w' _ _).mono (fun e w'' h => ⟨by rw [h.1, ← HI.out]; rfl, h.2.symm⟩)
 have HS : Hid (decide (0 ≤ i) = isS c) := by show _ = _; rw [← HI.out]; exact sign_idx c hc
 rw [← HS.out]
 clear HS HI
 go_enter Tryd.func79, Tryd.ntmps79
 go_wp2_with (go_at_call 87; refine (HD.out _).mono ?_; rintro e w' ⟨rfl, rfl⟩)
 go_ret
 exact ⟨rfl, rfl⟩
theorem gWords : Tryd.prog.globalNamed "recoup/token.words" = some 0 := by kernel_rfl
theorem Wt9.cell {w : World} (h : Wt9 w) (i : Nat) (hi : i < 17) : w.cell? ⟨0, i, none⟩ = some (.string (wds.getD i default)) := by
 rw [World.var?_cell gWords h i]
 have : i < wds.length := hi
 simp [this]
theorem qbz (w : World) (x : ByteArray) (HT : Hid (Wt9 w)) : Calls Tryd.prog 78 #[.string x] w fun e w' => e = .returned (.bool (isW x)) ∧ w = w' := by
 go_enter Tryd.func78, Tryd.ntmps78
 go_wp2
 go_loop [4] (fun vi => ∃ i : Nat, i ≤ 17 ∧ vi = .int .i64 (i : Int) ∧ Hid (∀ j, j < i → wds.getD j default ≠ x)) (fun vi => 17 - (intOf vi).toNat)
 case atStart => exact ⟨0, by omega, rfl, fun j hj => by omega⟩
 case round =>
  obtain ⟨i, hi, rfl, HN⟩ := hrel
  by_cases hlt : i < 17
  ·have hc := HT.out.cell i hlt
   obtain ⟨y, HY⟩ : ∃ y, Hid (wds.getD i default = y) := ⟨_, rfl⟩
   rw [HY.out] at hc
   have p0 : (0 : Int) ≤ (i : Int) := by omega
   have p1 : (i : Int) < 17 := by omega
   by_cases hy : y = x
   ·subst hy
    have HS9 : Hid (isW y = true) := isW_at hlt HY.out
    go_wp2
    go_ret
    exact ⟨by rw [HS9.out]; rfl, rfl⟩
   ·have hy2 := tl_ne hy
    go_wp2
    refine ⟨⟨i + 1, by omega, by go_num, fun j hj => ?_⟩, by simp [intOf]; omega⟩
    by_cases e : j = i
    ·rw [e, HY.out]; exact hy
    ·exact HN.out j (by omega)
  ·have HS9 : Hid (isW x = false) := qdn (fun j hj => HN.out j (by omega))
   go_wp2
   go_ret
   exact ⟨by rw [HS9.out]; rfl, rfl⟩
open Go.RowKit
theorem isN_of {x : ByteArray} {n : Nat} (hn : x.size = n) (h0 : 1 ≤ n) (h16 : n ≤ 16) (hW : isW x = false) (h : ∀ j, j < n → inN (tb x j) (decide (j = 0)) = true) : isN x = true := by
 refine qap.2 ⟨by omega, by omega, ?_, hW, fun j hj => ?_⟩
 ·have := h 0 (by omega)
  rw [show decide ((0 : Nat) = 0) = true from rfl, qbb] at this
  exact this
 ·have := h j (by omega)
  by_cases e : j = 0
  ·subst e
   rw [show decide ((0 : Nat) = 0) = true from rfl, qbb] at this
   rw [this]
   rfl
  ·rw [decide_eq_false e, qco] at this
   rw [Bool.or_comm]
   simpa using this
theorem qd9 {x : ByteArray} {n j : Nat} (hn : x.size = n) (hj : j < n) (h : inN (tb x j) (decide (j = 0)) = false) : isN x = false := by
 refine qal (fun hp => ?_)
 by_cases e : j = 0
 ·subst e
  rw [show decide ((0 : Nat) = 0) = true from rfl, qbb] at h
  rw [hp.first] at h
  cases h
 ·rw [decide_eq_false e, qco] at h
  have := hp.all j (by omega)
  rw [Bool.or_comm] at this
  simp only [Bool.true_and] at h
  rw [this] at h
  cases h
theorem qds (w : World) (x : ByteArray) (n : Nat) (hn : x.size = n) (hs : n ≤ 140737488351232) (HT : Hid (Wt9 w)) : Calls Tryd.prog 77 #[.string x] w fun e w' => e = .returned (.bool (isN x)) ∧ w = w' := by
 have HWd : Hid (Calls Tryd.prog 78 #[.string x] w fun e w'' => e = .returned (.bool (isW x)) ∧ w = w'') := qbz w x HT
 obtain ⟨v, HV⟩ : ∃ v, Hid (isW x = v) := ⟨_, rfl⟩
 obtain ⟨r, HR⟩ : ∃ r, Hid (isN x = r) := ⟨_, rfl⟩
 rw [HV.out] at HWd
 rw [HR.out]
 by_cases h0 : n = 0
 ·obtain rfl : r = false := by rw [← HR.out]; exact qal (fun h => by have := h.pos; omega)
  subst h0
  clear HR
  go_enter Tryd.func77, Tryd.ntmps77
  go_wp2
  go_ret
  exact ⟨rfl, rfl⟩
 have q0 : ((n : Int) == 0) = false := by simp; omega
 by_cases h16 : 16 < n
 ·obtain rfl : r = false := by rw [← HR.out]; exact qal (fun h => by have := h.most; omega)
  have q2 : decide (16 < n) = true := decide_eq_true h16
  have q3 : decide ((16 : Int) < (n : Int)) = true := decide_eq_true (by omega)
  clear HR
  go_enter Tryd.func77, Tryd.ntmps77
  go_wp2
  go_ret
  exact ⟨rfl, rfl⟩
 have q2 : decide (16 < n) = false := decide_eq_false h16
 have q3 : decide ((16 : Int) < (n : Int)) = false := decide_eq_false (by omega)
 cases v with
 | true =>
  obtain rfl : r = false := by rw [← HR.out]; exact qal (fun h => by have := h.noWord; rw [HV.out] at this; cases this)
  clear HR
  go_enter Tryd.func77, Tryd.ntmps77
  go_wp2_with (go_at_call 78; refine HWd.out.mono ?_; rintro r w1 ⟨rfl, rfl⟩)
  go_ret
  exact ⟨rfl, rfl⟩
 | false =>
  have HRn : Hid ((∀ j, j < n → inN (tb x j) (decide (j = 0)) = true) → r = true) := fun h => by
   rw [← HR.out]
   exact isN_of hn (by omega) (by omega) HV.out h
  have HRf : Hid (∀ j, j < n → inN (tb x j) (decide (j = 0)) = false → r = false) := fun j hj h => by
   rw [← HR.out]
   exact qd9 hn hj h
  clear HR
  go_enter Tryd.func77, Tryd.ntmps77
  go_wp2_with (go_at_call 78; refine HWd.out.mono ?_; rintro r w1 ⟨rfl, rfl⟩)
  go_loop [18] (fun vi => ∃ i : Nat, i ≤ n ∧ vi = .int .i64 (i : Int) ∧ Hid (∀ j, j < i → inN (tb x j) (decide (j = 0)) = true)) (fun vi => n - (intOf vi).toNat)
  case atStart => exact ⟨0, by omega, rfl, fun j hj => by omega⟩
  case round =>
   obtain ⟨i, hi, rfl, HA⟩ := hrel
   by_cases hlt : i < n
   ·have hix : i < x.size := by omega
    obtain ⟨c, HC⟩ : ∃ c, Hid (tb x i = c) := ⟨_, rfl⟩
    have hc : x[i].toNat = c := by rw [← HC.out]; exact qdi hix
    have hc8 : c < 256 := by rw [← HC.out]; exact tb_lt x i
    have p0 : (0 : Int) ≤ (i : Int) := by omega
    have p1 : (i : Int) < (n : Int) := by omega
    obtain ⟨f, HF⟩ : ∃ f, Hid (decide (i = 0) = f) := ⟨_, rfl⟩
    have qf : ((i : Int) == 0) = f := by rw [← HF.out]; by_cases e : i = 0 <;> simp [e]
    obtain ⟨g, HG⟩ : ∃ g, Hid (inN c f = g) := ⟨_, rfl⟩
    have HN : Hid (∀ w' : World, Calls Tryd.prog 86 #[.int .u8 (c : Int), .bool f] w' fun e w'' => e = .returned (.bool g) ∧ w' = w'') := fun w' => by rw [← HG.out]; exact qcf w' c f hc8
    cases g with
    | true =>
     have HA2 : Hid (∀ j, j < i + 1 → inN (tb x j) (decide (j = 0)) = true) := fun j hj => by
      by_cases e : j = i
      ·rw [e, HC.out, HF.out]; exact HG.out
      ·exact HA.out j (by omega)
     go_wp2_with (go_at_call 86; refine (HN.out _).mono ?_; rintro r w1 ⟨rfl, rfl⟩)
     exact ⟨⟨i + 1, by omega, by go_num, HA2⟩, by simp [intOf]; omega⟩
    | false =>
     have HR9 : Hid (r = false) := HRf.out i hlt (by rw [HC.out, HF.out]; exact HG.out)
     go_wp2_with (go_at_call 86; refine (HN.out _).mono ?_; rintro r w1 ⟨rfl, rfl⟩)
     go_ret
     exact ⟨by rw [HR9.out]; rfl, rfl⟩
   ·have HR9 : Hid (r = true) := HRn.out (fun j hj => HA.out j (by omega))
    go_wp2
    go_ret
    exact ⟨by rw [HR9.out]; rfl, rfl⟩
theorem tmay (w : World) (k : Nat) (x : ByteArray) (n ln cl : Int) (h : TvOk ⟨k, x, n, ln, cl⟩) (hw : Wt9 w) :
  Calls Tryd.prog 64 #[.agg #[.int .u8 (k : Int), .string x, .int .i64 n, .int .i64 ln, .int .i64 cl]] w fun e w' => e = .returned (.bool (mayB ⟨k, x, n, ln, cl⟩)) ∧ Below w.heap.size w w' := by
 obtain ⟨h8, hx, hn1, hn2⟩ := h
 have h8 : k < 256 := h8
 have hx : x.size ≤ 140737488351232 := hx
 have hn1 : -9223372036854775808 ≤ n := hn1
 have hn2 : n ≤ 9223372036854775807 := hn2
 have HW := qa0 hw
 have hv := Vn.new w 96 #[.int .u8 (k : Int), .string x, .int .i64 n, .int .i64 ln, .int .i64 cl]
 have k0 := hv.cell 0 _ rfl
 have k1 := hv.cell 1 _ rfl
 have k2 := hv.cell 2 _ rfl
 clear hv hw
 by_cases e1 : k = 1
 ·subst e1
  by_cases hn : n = 0
  ·have HR : Hid (mayB ⟨1, x, n, ln, cl⟩ = isN x) := by show mayB _ = _; unfold mayB; simp [hn]
   rw [HR.out]
   subst hn
   have HC : Hid (∀ w' : World, Below w.heap.size w w' → Calls Tryd.prog 77 #[.string x] w' fun e w'' => e = .returned (.bool (isN x)) ∧ w' = w'') := fun w' hb => qds w' x _ rfl hx (HW.out.later hb)
   obtain ⟨r, Hr⟩ : ∃ r, Hid (isN x = r) := ⟨_, rfl⟩
   rw [Hr.out] at HC
   rw [Hr.out]
   go_enter Tryd.func64, Tryd.ntmps64
   go_wp2_with (go_at_call 77; refine (HC.out _ (jlow _ _)).mono ?_; rintro r w1 ⟨rfl, rfl⟩)
   go_ret
   exact ⟨rfl, jlow _ _⟩
  ·have HR : Hid (mayB ⟨1, x, n, ln, cl⟩ = false) := by show mayB _ = _; unfold mayB; simp [hn]
   rw [HR.out]
   have q : (n == 0) = false := by simpa using hn
   go_enter Tryd.func64, Tryd.ntmps64
   go_wp2
   go_ret
   exact ⟨rfl, jlow _ _⟩
 have q1 : ((k : Int) == 1) = false := by simp; omega
 by_cases e2 : k = 2
 ·subst e2
  by_cases hn : n = 0
  ·have HR : Hid (mayB ⟨2, x, n, ln, cl⟩ = isW x) := by show mayB _ = _; unfold mayB; simp [hn]
   rw [HR.out]
   subst hn
   have HC : Hid (∀ w' : World, Below w.heap.size w w' → Calls Tryd.prog 78 #[.string x] w' fun e w'' => e = .returned (.bool (isW x)) ∧ w' = w'') := fun w' hb => qbz w' x (HW.out.later hb)
   obtain ⟨r, Hr⟩ : ∃ r, Hid (isW x = r) := ⟨_, rfl⟩
   rw [Hr.out] at HC
   rw [Hr.out]
   go_enter Tryd.func64, Tryd.ntmps64
   go_wp2_with (go_at_call 78; refine (HC.out _ (jlow _ _)).mono ?_; rintro r w1 ⟨rfl, rfl⟩)
   go_ret
   exact ⟨rfl, jlow _ _⟩
  ·have HR : Hid (mayB ⟨2, x, n, ln, cl⟩ = false) := by show mayB _ = _; unfold mayB; simp [hn]
   rw [HR.out]
   have q : (n == 0) = false := by simpa using hn
   go_enter Tryd.func64, Tryd.ntmps64
   go_wp2
   go_ret
   exact ⟨rfl, jlow _ _⟩
 have q2 : ((k : Int) == 2) = false := by simp; omega
 by_cases e3 : k = 3
 ·subst e3
  have HR : Hid (mayB ⟨3, x, n, ln, cl⟩ = (decide (x.size = 0) && (decide (0 ≤ n) && decide (n ≤ 2147483647)))) := rfl
  rw [HR.out]
  have e0 := tl_nil (x := x)
  by_cases hx0 : x.size = 0
  ·rw [decide_eq_true hx0] at e0 ⊢
   by_cases g1 : 0 ≤ n
   ·rw [decide_eq_true g1]
    have g2 : decide (0 ≤ n) = true := decide_eq_true g1
    obtain ⟨b, Hb⟩ : ∃ b, Hid (decide (n ≤ 2147483647) = b) := ⟨_, rfl⟩
    have hb := Hb.out
    rw [Hb.out]
    go_enter Tryd.func64, Tryd.ntmps64
    go_wp2
    go_ret
    exact ⟨rfl, jlow _ _⟩
   ·rw [decide_eq_false g1]
    have g2 : decide (0 ≤ n) = false := decide_eq_false g1
    go_enter Tryd.func64, Tryd.ntmps64
    go_wp2
    go_ret
    exact ⟨rfl, jlow _ _⟩
  ·rw [decide_eq_false hx0] at e0 ⊢
   go_enter Tryd.func64, Tryd.ntmps64
   go_wp2
   go_ret
   exact ⟨rfl, jlow _ _⟩
 have q3 : ((k : Int) == 3) = false := by simp; omega
 by_cases e4 : k = 4
 ·subst e4
  by_cases hn : n = 0
  ·subst hn
   by_cases hx1 : x.size = 1
   ·have h0x : 0 < x.size := by omega
    obtain ⟨c, HC⟩ : ∃ c, Hid (tb x 0 = c) := ⟨_, rfl⟩
    have hc : x[0].toNat = c := by rw [← HC.out]; exact qdi h0x
    have hc8 : c < 256 := by rw [← HC.out]; exact tb_lt x 0
    have HR : Hid (mayB ⟨4, x, 0, ln, cl⟩ = isS c) := by show mayB _ = _; unfold mayB; simp [hx1, HC.out]
    rw [HR.out]
    have HS : Hid (∀ w' : World, Calls Tryd.prog 79 #[.int .u8 (c : Int)] w' fun e w'' => e = .returned (.bool (isS c)) ∧ w' = w'') := fun w' => qdr w' c hc8
    obtain ⟨r, Hr⟩ : ∃ r, Hid (isS c = r) := ⟨_, rfl⟩
    rw [Hr.out] at HS
    rw [Hr.out]
    go_enter Tryd.func64, Tryd.ntmps64
    go_wp2_with (go_at_call 79; refine (HS.out _).mono ?_; rintro r w1 ⟨rfl, rfl⟩)
    go_ret
    exact ⟨rfl, jlow _ _⟩
   ·have HR : Hid (mayB ⟨4, x, 0, ln, cl⟩ = false) := by show mayB _ = _; unfold mayB; simp [hx1]
    rw [HR.out]
    have qx : ((x.size : Int) == 1) = false := by simp; omega
    go_enter Tryd.func64, Tryd.ntmps64
    go_wp2
    go_ret
    exact ⟨rfl, jlow _ _⟩
  ·have HR : Hid (mayB ⟨4, x, n, ln, cl⟩ = false) := by show mayB _ = _; unfold mayB; simp [hn]
   rw [HR.out]
   have q : (n == 0) = false := by simpa using hn
   go_enter Tryd.func64, Tryd.ntmps64
   go_wp2
   go_ret
   exact ⟨rfl, jlow _ _⟩
 have q4 : ((k : Int) == 4) = false := by simp; omega
 have HR : Hid (mayB ⟨k, x, n, ln, cl⟩ = false) := by show mayB _ = _; unfold mayB; simp [e1, e2, e3, e4]
 rw [HR.out]
 go_enter Tryd.func64, Tryd.ntmps64
 go_wp2
 go_ret
 exact ⟨rfl, jlow _ _⟩
open Go.RowKit
/-- A variable above a list that is made longer. -/
theorem Vn.keptx {w w1 w2 : World} {b : Nat} {T : TypeId} {xs : Array Value} {v : Value} (h : Vn w b T xs) (hg : w1.grownBy w2 v.ownBlock) (hb : Below w.heap.size w w1) (hv : ∀ {g}, v.ownBlock = some g → g < b) : Vn w2 b T xs := by
 have h1 := h.later hb
 unfold Vn at *
 rw [hg.block b (lt_of_block h1) (fun e => by have := hv e.symm; omega)]
 exact h1
end Go.Proofs.YtgmndjbicandfaaDoor
