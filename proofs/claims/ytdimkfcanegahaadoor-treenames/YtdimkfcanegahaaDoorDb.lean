/-
  Stage 10: items as tokens; how many nodes an item leaves. No Go in sight.
-/
import Derived.Test.YtdimkfcanegahaaDoorDa
namespace Go.Proofs.YtdimkfcanegahaaDoor
open Go.RowKit
theorem sleft_le : ∀ d T l, 0 ≤ l → -1 ≤ sleft d T l ∧ sleft d T l ≤ l := by
  intro d
  induction d with
  | zero => intro T l h; show -1 ≤ (-1 : Int) ∧ (-1 : Int) ≤ l; omega
  | succ d ih =>
    intro T l h
    show -1 ≤ (if _ then _ else _) ∧ (if _ then _ else _) ≤ l
    split
    · omega
    · split
      · omega
      · obtain ⟨B, hB⟩ : ∃ B, xks (xleft 16) (T []).args (T []).na (l - 1) = B := ⟨_, rfl⟩
        obtain ⟨Q, hQ⟩ : ∃ Q, rks (T []).rl (T []).rows (T []).nr B = Q := ⟨_, rfl⟩
        rw [hB, hQ]
        have b1 := xks_le (xleft_le 16) (F := (T []).args) (T []).na (l - 1) (by omega)
        rw [hB] at b1
        have b2 : -1 ≤ Q ∧ Q ≤ B := by
          rw [← hQ]
          by_cases hb : 0 ≤ B
          · exact rks_le _ _ hb
          · have := rks_stop (len := (T []).rl) (F := (T []).rows) (k := 0) (left := B) (by show B < 0; omega) (T []).nr
            rw [Nat.zero_add] at this
            rw [this]
            show -1 ≤ B ∧ B ≤ B
            omega
        by_cases hq : 0 ≤ Q
        · have := sks_le ih (F := part T) (T []).np Q hq
          omega
        · have := sks_stop (f := sleft d) (F := part T) (k := 0) (left := Q) (by show Q < 0; omega) (T []).np
          rw [Nat.zero_add] at this
          rw [this]
          show -1 ≤ Q ∧ Q ≤ l
          omega
theorem sks_succ (f : St → Int → Int) (F : Nat → St) (k : Nat) (left : Int) : sks f F (k + 1) left = if sks f F k left < 0 then sks f F k left else f (F k) (sks f F k left) := rfl
theorem rks_succ (len : Nat → Nat) (F : Nat → Nat → Xt) (k : Nat) (left : Int) : rks len F (k + 1) left = if rks len F k left < 0 then rks len F k left else if len k < 1 ∨ 64 < len k then -1 else xks (xleft 16) (F k) (len k) (rks len F k left) := rfl
theorem sleft_succ (d : Nat) (S : St) (left : Int) : sleft (d + 1) S left = if left - 1 < 0 then -1 else if swant (S []) = false then -1 else sks (sleft d) (part S) (S []).np (rks (S []).rl (S []).rows (S []).nr (xks (xleft 16) (S []).args (S []).na (left - 1))) := rfl
/-- The steps of a shape's count that is not below 0. -/
theorem sleft_steps {d : Nat} {S : St} {left : Int} (h : 0 ≤ sleft (d + 1) S left) : ∃ A R : Int, 1 ≤ left ∧ swant (S []) = true ∧ xks (xleft 16) (S []).args (S []).na (left - 1) = A ∧ rks (S []).rl (S []).rows (S []).nr A = R ∧ sleft (d + 1) S left = sks (sleft d) (part S) (S []).np R ∧ 0 ≤ A ∧ 0 ≤ R := by
  rw [sleft_succ] at h ⊢
  split at h
  · omega
  · rename_i hl1
    split at h
    · omega
    · rename_i hs
      obtain ⟨A, hA⟩ : ∃ A, xks (xleft 16) (S []).args (S []).na (left - 1) = A := ⟨_, rfl⟩
      obtain ⟨R, hR⟩ : ∃ R, rks (S []).rl (S []).rows (S []).nr A = R := ⟨_, rfl⟩
      rw [hA, hR] at h
      have hR0 : 0 ≤ R := by
        rcases Int.lt_or_le R 0 with g | g
        · have := sks_stop (f := sleft d) (F := part S) (k := 0) (left := R) g (S []).np
          rw [Nat.zero_add] at this
          have h2 : sks (sleft d) (part S) 0 R = R := rfl
          omega
        · exact g
      have hA0 : 0 ≤ A := by
        rcases Int.lt_or_le A 0 with g | g
        · have := rks_stop (len := (S []).rl) (F := (S []).rows) (k := 0) (left := A) g (S []).nr
          rw [Nat.zero_add] at this
          have h2 : rks (S []).rl (S []).rows 0 A = A := rfl
          omega
        · exact g
      refine ⟨A, R, by omega, by cases hw : swant (S []) with | true => rfl | false => exact absurd hw hs, hA, hR, ?_, hA0, hR0⟩
      rw [if_neg hl1, if_neg hs, hA, hR]
theorem stk_len : ∀ d S left, 0 ≤ sleft d S left → ((stk d S).length : Int) ≤ 7 * (left - sleft d S left) := by
  intro d
  induction d with
  | zero => intro S left h; exact absurd h (by show ¬ (0 : Int) ≤ -1; omega)
  | succ d ih =>
    intro S left h
    obtain ⟨A, R, h1, hw, hA, hR, e, hA0, hR0⟩ := sleft_steps h
    rw [e] at h ⊢
    have a1 := rtk_len (F := (S []).args) (left := left - 1) (by omega) (S []).na (by rw [hA]; exact hA0)
    have a2 := mtk_len (len := (S []).rl) (F := (S []).rows) (left := A) hA0 (S []).nr (by rw [hR]; exact hR0)
    rw [hA] at a1
    rw [hR] at a2
    have a3 : ∀ n, 0 ≤ sks (sleft d) (part S) n R → ((ptk (stk d) (part S) n).length : Int) ≤ 7 * (R - sks (sleft d) (part S) n R) + n := by
      intro n
      induction n with
      | zero => intro _; show (0 : Int) ≤ 7 * (R - R) + 0; omega
      | succ n ihn =>
        intro hn
        have g1 := sks_mid hn n (by omega)
        have g2 := ihn g1
        rw [sks_succ, if_neg (by omega)] at hn ⊢
        have g3 := ih _ _ hn
        rw [ptk_succ]
        split
        · simp only [List.length_append, List.length_nil]; omega
        · simp only [List.length_append, List.length_cons, List.length_nil]; omega
    have a4 := a3 _ h
    have hxt := (xks_le (xleft_le 16) (F := (S []).args) (S []).na (left - 1) (by omega)).2
    rw [hA] at hxt
    have hrt := (rks_le (len := (S []).rl) (F := (S []).rows) (S []).nr A hA0).2
    rw [hR] at hrt
    have hst := (sks_le (sleft_le d) (F := part S) (S []).np R hR0).2
    rw [stk_succ]
    rcases swant_cases hw with ⟨k1, hn, _⟩ | ⟨k2, k5, _, na, np, _⟩ | ⟨k6, k7, _, na, np, _⟩ | ⟨k8, _, _, _, nr⟩
    · rw [if_pos k1]
      show (1 : Int) ≤ _
      omega
    · rw [if_neg (by omega), if_neg (by omega)]
      simp only [List.length_append, List.length_cons, List.length_nil]
      rw [np] at a4 ⊢
      omega
    · rw [if_neg (by omega), if_neg (by omega)]
      simp only [List.length_append, List.length_cons, List.length_nil]
      rw [np] at a4 ⊢
      omega
    · rw [if_neg (by omega), if_pos k8]
      simp only [List.length_append, List.length_cons, List.length_nil]
      omega
theorem MS.toks {d : Nat} {S : St} (h : MS d S) : (stk d S).length ≤ 57344 := by
  obtain ⟨left, hl, h⟩ := h
  have h0 : 0 ≤ left := by
    cases d with
    | zero => exact absurd h (by show ¬ (0 : Int) ≤ -1; omega)
    | succ d => obtain ⟨A, R, h1, _⟩ := sleft_steps h; omega
  have := stk_len d S left h
  omega
theorem rtk_many {F : Nat → Xt} : ∀ n, (∀ i, i < n → MX 16 (F i)) → (rtk F n).length ≤ 40961 * n := by
  intro n
  induction n with
  | zero => intro _; exact Nat.le_refl _
  | succ n ih =>
    intro h
    have h1 := ih (fun i hi => h i (by omega))
    have h2 := (h n (by omega)).toks
    rw [rtk_succ]
    split
    · simp only [List.length_append, List.length_nil]; omega
    · simp only [List.length_append, List.length_cons, List.length_nil]; omega
/-- The words of items and places. -/
def iwd (k : Nat) : ByteArray := if k = 1 then ⟨#[99, 111, 110, 115, 116]⟩ else if k = 2 then ⟨#[99, 111, 100, 101]⟩ else if k = 3 then ⟨#[117, 115, 101]⟩ else if k = 4 then ⟨#[100, 111, 109, 97, 105, 110, 115]⟩ else if k = 5 then ⟨#[112, 108, 97, 99, 101]⟩ else ⟨#[116, 111, 108, 101, 114, 97, 116, 101]⟩
def pwd (k : Nat) : ByteArray := if k = 1 then ⟨#[114, 111, 119]⟩ else if k = 2 then ⟨#[115, 112, 114, 101, 97, 100]⟩ else if k = 3 then ⟨#[115, 112, 105, 114, 97, 108]⟩ else ⟨#[108, 105, 115, 116]⟩
theorem tkf_iwd (k : Nat) : TkF [tkW (iwd k)] (iwd k).data.toList := by
  unfold iwd
  repeat' split
  all_goals exact tkf_word (by decide +kernel) (by decide)
theorem tkf_pwd (k : Nat) : TkF [tkW (pwd k)] (pwd k).data.toList := by
  unfold pwd
  repeat' split
  all_goals exact tkf_word (by decide +kernel) (by decide)
/-- The tokens of a place. -/
def ltk (I : It) : List TV := if I.pl = 3 then tkW (pwd I.pl) :: xtk 16 I.val else if I.pl = 4 then tkW (pwd I.pl) :: tkS ⟨#[91]⟩ :: (rtk I.list I.nl ++ [tkS ⟨#[93]⟩]) else [tkW (pwd I.pl)]
/-- The tokens of an item. -/
def itk (I : It) : List TV := tkW (iwd I.k) :: ((if I.k = 1 then tkN I.nm :: tkS ⟨#[61]⟩ :: xtk 16 I.val else if I.k = 2 then tkN I.nm :: tkS ⟨#[61]⟩ :: stk 16 I.shp else if I.k = 3 then [tkN I.nm] else if I.k = 5 then ltk I else xtk 16 I.val) ++ [tkS ⟨#[59]⟩])
theorem TkF.re {L : List TV} {a b : List UInt8} (h : TkF L a) (e : a = b) : TkF L b := e ▸ h
theorem itk_f {I : It} (h : MI I) : ∃ b, TkF (itk I) b ∧ iby I = b ++ [10] := by
  have s59 := tkf_sign (c := 59) (by decide)
  have s61 := tkf_sign (c := 61) (by decide)
  unfold itk
  rcases h with ⟨k1, p1, n1, v1, s1, l1⟩ | ⟨k1, p1, n1, v1, s1, l1⟩ | ⟨k1, p1, n1, v1, s1, l1⟩ | ⟨k1, p1, n1, v1, s1, l1⟩ | ⟨k1, p1, n1, v1, s1, l1⟩ | ⟨k1, p1, n1, v1, s1, l1⟩ | ⟨k1, p1, n1, v1, s1, l1⟩ | ⟨k1, p1, n1, v1, s1, l1⟩ | ⟨k1, p1, n1, v1, s1, l1, l2⟩
  · rw [iby_const k1, if_pos k1]
    refine ⟨_, (tkf_iwd _).cons (((tkf_name n1).cons (s61.cons (xtk_f 16 _ v1))).app s59), ?_⟩
    rw [k1]
    simp [iwd]
  · rw [iby_code k1, if_neg (by omega), if_pos k1]
    refine ⟨_, (tkf_iwd _).cons (((tkf_name n1).cons (s61.cons (stk_f 16 _ s1))).app s59), ?_⟩
    rw [k1]
    simp [iwd]
  · rw [iby_use k1, if_neg (by omega), if_neg (by omega), if_pos k1]
    refine ⟨_, (tkf_iwd _).cons ((tkf_name n1).app s59), ?_⟩
    rw [k1]
    simp [iwd]
  · rw [iby_domains k1, if_neg (by omega), if_neg (by omega), if_neg (by omega), if_neg (by omega)]
    refine ⟨_, (tkf_iwd _).cons ((xtk_f 16 _ v1).app s59), ?_⟩
    rw [k1]
    simp [iwd]
  · rw [iby_tolerate k1, if_neg (by omega), if_neg (by omega), if_neg (by omega), if_neg (by omega)]
    refine ⟨_, (tkf_iwd _).cons ((xtk_f 16 _ v1).app s59), ?_⟩
    rw [k1]
    simp [iwd]
  · rw [iby_row k1 p1, if_neg (by omega), if_neg (by omega), if_neg (by omega), if_pos k1, ltk, if_neg (by omega), if_neg (by omega)]
    refine ⟨_, (tkf_iwd _).cons ((tkf_pwd _).app s59), ?_⟩
    rw [k1, p1]
    simp [iwd, pwd]
  · rw [iby_spread k1 p1, if_neg (by omega), if_neg (by omega), if_neg (by omega), if_pos k1, ltk, if_neg (by omega), if_neg (by omega)]
    refine ⟨_, (tkf_iwd _).cons ((tkf_pwd _).app s59), ?_⟩
    rw [k1, p1]
    simp [iwd, pwd]
  · rw [iby_spiral k1 p1, if_neg (by omega), if_neg (by omega), if_neg (by omega), if_pos k1, ltk, if_pos p1]
    refine ⟨_, (tkf_iwd _).cons (((tkf_pwd _).cons (xtk_f 16 _ v1)).app s59), ?_⟩
    rw [k1, p1]
    simp [iwd, pwd]
  · rw [iby_list k1 p1, if_neg (by omega), if_neg (by omega), if_neg (by omega), if_pos k1, ltk, if_neg (by omega), if_pos p1]
    obtain ⟨m, hm⟩ : ∃ m, I.nl = m + 1 := ⟨I.nl - 1, by omega⟩
    rw [hm] at l2 ⊢
    refine ⟨_, (tkf_iwd _).cons (((tkf_pwd _).cons ((tkf_sign (c := 91) (by decide)).cons ((rtk_f _ m l2).app (tkf_sign (c := 93) (by decide))))).app s59), ?_⟩
    rw [k1, p1]
    simp [iwd, pwd]
/-- Which items may be, but for their count, and what stands in them. -/
def iwant (I : It) : Bool :=
  if I.k = 1 then isN I.nm && (!zxB (I.val []) && (zsB (I.shp []) && (decide (I.pl = 0) && decide (I.nl = 0))))
  else if I.k = 2 then isN I.nm && (zxB (I.val []) && (!zsB (I.shp []) && (decide (I.pl = 0) && decide (I.nl = 0))))
  else if I.k = 3 then isN I.nm && (zxB (I.val []) && (zsB (I.shp []) && (decide (I.pl = 0) && decide (I.nl = 0))))
  else decide (I.nm.size = 0) && (zsB (I.shp []) && (if I.k = 4 ∨ I.k = 6 then !zxB (I.val []) && (decide (I.pl = 0) && decide (I.nl = 0))
    else if I.k = 5 then (if I.pl = 1 ∨ I.pl = 2 then zxB (I.val []) && decide (I.nl = 0) else if I.pl = 3 then !zxB (I.val []) && decide (I.nl = 0) else if I.pl = 4 then zxB (I.val []) && (decide (1 ≤ I.nl) && decide (I.nl ≤ 64)) else false)
    else false))
/-- Has an item a value? -/
def ival (I : It) : Bool := decide (I.k = 1) || (decide (I.k = 4) || (decide (I.k = 6) || (decide (I.k = 5) && decide (I.pl = 3))))
/-- How many nodes are left behind an item. -/
def ileft (I : It) (left : Int) : Int :=
  if left - 1 < 0 then -1 else if iwant I = false then -1 else
  if ival I = true then xleft 16 I.val (left - 1) else if I.k = 2 then sleft 16 I.shp (left - 1) else xks (xleft 16) I.list I.nl (left - 1)
end Go.Proofs.YtdimkfcanegahaaDoor
