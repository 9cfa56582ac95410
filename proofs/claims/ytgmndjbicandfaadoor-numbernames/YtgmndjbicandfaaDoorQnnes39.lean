/-
  Stage 12: the program's Names.
-/
import Derived.Test.YtgmndjbicandfaaDoorQnnes00
import Derived.Test.YtgmndjbicandfaaDoorQnnes33
import Derived.Test.YtgmndjbicandfaaDoorQnnes35
import Derived.Test.YtgmndjbicandfaaDoorQnnes38
import Derived.Test.YtgmndjbicandfaaDoorQnnes09
set_option maxRecDepth 100000
set_option maxHeartbeats 16000000
namespace Go.Proofs.YtgmndjbicandfaaDoor
open Go.RowKit Go.Shelf Go.Maps Go.Sort
open Go.Proofs (encStr)
/-- How the map of names reads: each element as nothing. -/
def RU12 (_ : Value) : Option (DataW Unit × List MemPlace) := some (.lit (.bool true), [])
/-- A map whose keys are the names of L. -/
def Nk12 (w : World) (b n : Nat) (L : List (List UInt8)) : Prop := ∃ D : DataW Unit, w.ownsMap Tryd.prog 9 RU12 b n D ∧ ∀ x, has D (.string x) = true ↔ x ∈ L
theorem Nk12.kept {w w' : World} {b n : Nat} {L : List (List UInt8)} {row : Option Nat} (h : Nk12 w b n L) (hg : w.grownBy w' row) (hne : some b ≠ row) : Nk12 w' b n L := by
 obtain ⟨D, h1, h2⟩ := h
 exact ⟨D, h1.kept hg hne, h2⟩
theorem Nk12.later {w w' : World} {b n : Nat} {L : List (List UInt8)} (h : Nk12 w b n L) (hb : Below w.heap.size w w') : Nk12 w' b n L := h.kept (jgrown.mpr hb) (by simp)
theorem has_nm12 {D : DataW Unit} {L : List (List UInt8)} {u : List UInt8} (hD : IsMap D) (h : ∀ x, has D (.string x) = true ↔ x ∈ L) : ∀ x, has (D.put (.string u) (.lit (.bool true))) (.string x) = true ↔ x ∈ L ++ [u] := by
 intro x
 by_cases e : x = u
 ·subst e
  exact ⟨fun _ => List.mem_append_right _ (List.mem_singleton.2 rfl), fun _ => has_put_same hD (by trivial) _⟩
 ·rw [has_put_other (fun e2 => e (by injection e2)), h x]
  constructor
  ·exact fun hv => List.mem_append_left _ hv
  ·intro hv
   rcases List.mem_append.1 hv with hv | hv
   ·exact hv
   ·exact absurd (List.mem_singleton.1 hv) e
theorem qe7 {f : Xt → List (List UInt8)} {F : Nat → Xt} {n m : Nat} (h : n ≤ m) : (ncat f F n).length ≤ (ncat f F m).length := by
 induction m with
 | zero => rw [show n = 0 by omega]; exact Nat.le_refl _
 | succ m ih =>
  by_cases e : n = m + 1
  ·rw [e]; exact Nat.le_refl _
  ·have := ih (by omega)
   show _ ≤ (ncat f F m ++ f (F m)).length
   rw [List.length_append]
   omega
theorem grow_row {w w' : World} (h : w.grownBy w' none) {row : Option Nat} : w.grownBy w' row := ⟨h.os, h.tape, h.output, h.size, fun k hk _ => h.block k hk (by simp)⟩
theorem qdf {w w' : World} {b B : Nat} (h : w.grownBy w' (some b)) (hb : B ≤ b) (hB : B ≤ w.heap.size) : Below B w w' := jbelow h hB (fun g e => by cases e; exact hb)
theorem pgather : ∀ (d : Nat) (w0 w : World) (T : Xt) (v : Value) (b : Nat) (L : List (List UInt8)), XV w0 v T → MX d T → Below w0.heap.size w0 w → w0.heap.size ≤ b → b < w.heap.size → Nk12 w b L.length L → L.length + (nmx d T).length ≤ 100000 → Calls Tryd.prog 26 #[.map (some b), v] w fun e w' => e = .returned (.tuple #[]) ∧ Nk12 w' b (L ++ nmx d T).length (L ++ nmx d T) ∧ w.grownBy w' (some b) := by
 intro d
 induction d with
 | zero => intro w0 w T v b L _ hM; exact hM.no.elim
 | succ d ih =>
  intro w0 w T v b L hX hM hb0 hB hbw hN hL
  obtain ⟨⟨a, cap, rfl, hXl⟩, hok⟩ := hX
  have hlen := hM.len
  have hnm := hok.nm47
  have HO : Hid ((T []).k ≠ 2 → nmx (d + 1) T = ncat (nmx d) (kid T) (T []).len) := fun h => qcb h
  have HN2 : Hid ((T []).k = 2 → nmx (d + 1) T = [(T []).nm.data.toList] ∧ (T []).len = 0) := fun h => ⟨qd4 h, mx_len0 hM (.inr h)⟩
  have HIH : Hid (∀ i, i < (T []).len → ∀ (w' : World) (v' : Value) (L' : List (List UInt8)), XV w0 v' (kid T i) → Below w0.heap.size w0 w' → b < w'.heap.size → Nk12 w' b L'.length L' → L'.length + (nmx d (kid T i)).length ≤ 100000 → Calls Tryd.prog 26 #[.map (some b), v'] w' fun e w'' => e = .returned (.tuple #[]) ∧ Nk12 w'' b (L' ++ nmx d (kid T i)).length (L' ++ nmx d (kid T i)) ∧ w'.grownBy w'' (some b)) := fun i hi w' v' L' hv' hb' hbw' hN' hL' => ih w0 w' (kid T i) v' b L' hv' (hM.kid hi) hb' hB hbw' hN' hL'
  have HXl := qa0 hXl
  have HN := qa0 hN
  have HW0 := qa0 hb0
  clear hXl hM ih hok hN hb0
  generalize nmx (d + 1) T = V at *
  generalize T [] = l at *
  obtain ⟨k, n, nm, len, ln, cl⟩ := l
  have hlen : len ≤ 2 := hlen
  have hnm : nm.size ≤ 140737488351232 := hnm
  have HXl : Hid (∀ d, XL d w0 a len (kid T)) := HXl
  have HO : Hid (k ≠ 2 → V = ncat (nmx d) (kid T) len) := HO
  have HN2 : Hid (k = 2 → V = [nm.data.toList] ∧ len = 0) := HN2
  have HIH : Hid (∀ i, i < len → ∀ (w' : World) (v' : Value) (L' : List (List UInt8)), XV w0 v' (kid T i) → Below w0.heap.size w0 w' → b < w'.heap.size → Nk12 w' b L'.length L' → L'.length + (nmx d (kid T i)).length ≤ 100000 → Calls Tryd.prog 26 #[.map (some b), v'] w' fun e w'' => e = .returned (.tuple #[]) ∧ Nk12 w'' b (L' ++ nmx d (kid T i)).length (L' ++ nmx d (kid T i)) ∧ w'.grownBy w'' (some b)) := HIH
  show Calls Tryd.prog 26 #[.map (some b), .agg #[.int .u8 (k : Int), .int .i64 n, .string nm, .slice a len cap, .int .i64 ln, .int .i64 cl]] w _
  obtain ⟨wb, HW⟩ : ∃ wb, Hid (wb = w.alloc (.cells #[.int .u8 (k : Int), .int .i64 n, .string nm, .slice a len cap, .int .i64 ln, .int .i64 cl] 25)) := ⟨_, rfl⟩
  have HX : Hid (Vn wb w.heap.size 25 #[.int .u8 (k : Int), .int .i64 n, .string nm, .slice a len cap, .int .i64 ln, .int .i64 cl]) := by show Vn _ _ _ _; rw [HW.out]; exact Vn.new w _ _
  have hbl : Below w.heap.size w wb := by rw [HW.out]; exact jlow _ _
  have HGb : Hid (w.grownBy wb (some b)) := by show World.grownBy _ _ _; rw [HW.out]; exact World.grownBy_alloc w _ _
  have HNb := qa0 (HN.out.later hbl)
  have HBb := qa0 (jtwo HW0.out hbl)
  have hsb : b < wb.heap.size := Nat.lt_of_lt_of_le hbw hbl.size
  have c0 := HX.out.cell 0 _ rfl
  have c2 := HX.out.cell 2 _ rfl
  have c3 := HX.out.cell 3 _ rfl
  have hxb : w.heap.size ≠ b := by omega
  clear HN hbl
  by_cases hk : k = 2
  ·subst hk
   obtain ⟨hV, hl0⟩ := HN2.out rfl
   subst hV
   subst hl0
   obtain ⟨D, hO, hD⟩ := HNb.out
   have HO1 := qa0 hO
   have HD1 := qa0 hD
   have hMp : IsMap D := (hO.keysOf).elim fun es h => ⟨es, h.1⟩
   have HMp := qa0 hMp
   have HW2 : Hid (wb = w.alloc (.cells #[.int .u8 2, .int .i64 n, .string nm, .slice a 0 cap, .int .i64 ln, .int .i64 cl] 25)) := HW.out
   have HK := qa0 (WideMaps.keyOf_string_mk (P := Tryd.prog) (k := 9) Tryd.underlying9 (s := nm) (by unfold maxLen; omega))
   clear hO hD HO HN2 HIH HXl HNb HBb HW
   go_enter Tryd.func26, Tryd.ntmps26
   go_wp2_with (first
    | rw [← HW2.out]
    | (at_mapUpdate; go_loud (refine wpList_mapUpdate_own _ rfl _ _ _ 61 rfl 9 67 qb0 Tryd.underlying61 RU12 b _ D rfl HO1.out (by unfold maxLen; omega) _ _ _ rfl rfl HK.out _ [] rfl ?_; intro w9 hO9 hg9; have HO9 := qa0 hO9; have HG9 := qa0 hg9; have e3 : w9.cell? ⟨w.heap.size, 3, none⟩ = some (.slice a 0 cap) := (hg9.cell c3 (by simpa using hxb)); clear hO9 hg9)))
   have HNe : Hid (Nk12 w9 b (L.length + 1) (L ++ [nm.data.toList])) := by
    show Nk12 _ _ _ _
    exact ⟨_, HO9.out, has_nm12 HMp.out HD1.out⟩
   have HGe := qa0 (HGb.out.trans HG9.out)
   go_loop [16] (fun vi => vi = .int .i64 0) (fun _ => 0)
   case atStart => rfl
   case round =>
    obtain rfl := hrel
    go_wp2
    go_end0
    exact ⟨rfl, HNe.out, HGe.out⟩
  ·have qk : ((k : Int) == 2) = false := by simp; omega
   have hV := HO.out hk
   subst hV
   clear HO HN2 c2
   go_enter Tryd.func26, Tryd.ntmps26
   go_wp2_with (rw [← HW.out])
   go_loopw [16] (fun vi wr => ∃ (i : Nat) (M : List (List UInt8)), i ≤ len ∧ vi = .int .i64 (i : Int) ∧ Hid (L ++ ncat (nmx d) (kid T) i = M) ∧ Hid (Nk12 wr b M.length M) ∧ Hid (w.grownBy wr (some b))) (fun vi _ => len - (intOf vi).toNat)
   case atStart =>
    refine ⟨0, L, by omega, rfl, ?_, HNb, HGb⟩
    show L ++ [] = L
    exact List.append_nil _
   case round =>
    obtain ⟨i, M, hi, rfl, HM, HNr, HGr⟩ := hrel
    have hbr : Below w0.heap.size w0 wr := HW0.out.trans (qdf HGr.out hB HW0.out.size)
    have hsr := HGr.out.size
    have HBr := qa0 hbr
    by_cases hlt : i < len
    ·have p0 : (0 : Int) ≤ (i : Int) := by omega
     have p1 : (i : Int) < (len : Int) := by omega
     obtain ⟨b', o, kk, nl, nn, ll, cc, nx, ka, kc, rfl, hXV, hcl⟩ := XL.at_ HXl.out hlt
     obtain ⟨k0, k1, k2, k3, k4, k5⟩ := hcl wr hbr
     have hmo := qe7 (f := nmx d) (F := kid T) (show i + 1 ≤ len by omega)
     have hMl : M.length + (nmx d (kid T i)).length ≤ 100000 := by
      have e : (ncat (nmx d) (kid T) (i + 1)).length = (ncat (nmx d) (kid T) i).length + (nmx d (kid T i)).length := List.length_append
      rw [← HM.out, List.length_append]
      omega
     obtain ⟨M2, HM2⟩ : ∃ M2, Hid (M ++ nmx d (kid T i) = M2) := ⟨_, rfl⟩
     have HT2 : Hid (L ++ ncat (nmx d) (kid T) (i + 1) = M2) := by
      show L ++ (ncat (nmx d) (kid T) i ++ nmx d (kid T i)) = _
      rw [← List.append_assoc, HM.out, HM2.out]
     have HC : Hid (∀ w' : World, Below w0.heap.size w0 w' → b < w'.heap.size → Nk12 w' b M.length M → Calls Tryd.prog 26 #[.map (some b), .agg #[.int .u8 (kk : Int), .int .i64 nn, .string nx, .slice ka nl kc, .int .i64 ll, .int .i64 cc]] w' fun e w'' => e = .returned (.tuple #[]) ∧ Nk12 w'' b M2.length M2 ∧ w'.grownBy w'' (some b)) := fun w' hb' hbw' hN' => by
      have h := HIH.out i hlt w' _ M hXV hb' hbw' hN' hMl
      rw [HM2.out] at h
      exact h
     have M1 : True := trivial
     clear hcl hXV HIH HM hmo hMl HXl hbr
     go_wp2_with (first
      | (clear M1; refine qa1 rfl 25 _ _ rfl wr.heap.size _ #[.int .u8 (kk : Int), .int .i64 nn, .string nx, .slice ka nl kc, .int .i64 ll, .int .i64 cc] rfl rfl (Vn.new wr _ _) sizeX rfl (all6 rfl rfl rfl rfl rfl rfl) ?_; intro w3 HG3 hg3; go_loud (have hb3 : Below wr.heap.size wr w3 := (jlow _ _).trans (jbelow hg3.out (jlow _ _).size (fun g e => by cases e; exact Nat.le_refl _)); have HB3 := qa0 (jtwo HBr.out hb3); have HN3 := qa0 (HNr.out.later hb3); have HG3b : Hid (w.grownBy w3 (some b)) := (HGr.out.trans (grow_row (jgrown.mpr hb3))); have hs3 := hb3.size; have o0 := HG3.out.cell 0 _ rfl; have o1 := HG3.out.cell 1 _ rfl; have o2 := HG3.out.cell 2 _ rfl; have o3 := HG3.out.cell 3 _ rfl; have o4 := HG3.out.cell 4 _ rfl; have o5 := HG3.out.cell 5 _ rfl; clear hg3 hb3))
      | (go_at_call 26; go_loud (refine (HC.out _ HB3.out (by omega) HN3.out).mono ?_; rintro e w4 ⟨rfl, hN4, hg4⟩; have HN4 := qa0 hN4; have HG4 := qa0 (HG3b.out.trans hg4); clear hN4 hg4)))
     exact ⟨⟨i + 1, M2, by omega, by go_num, HT2, HN4, HG4⟩, by simp [intOf]; omega⟩
    ·obtain rfl : i = len := by omega
     clear HIH HXl
     go_wp2
     go_end0
     exact ⟨rfl, by rw [HM.out]; exact HNr.out, HGr.out⟩
/-- Each name once. -/
def nub : List (List UInt8) → List (List UInt8)
 | [] => []
 | x :: r => if x ∈ nub r then nub r else x :: nub r
theorem qbh : ∀ L, (nub L).Nodup := by
 intro L
 induction L with
 | nil => exact List.nodup_nil
 | cons x r ih =>
  show (if x ∈ nub r then nub r else x :: nub r).Nodup
  split
  ·exact ih
  ·rename_i h; exact List.nodup_cons.2 ⟨h, ih⟩
theorem qcm {x : List UInt8} : ∀ L, x ∈ nub L ↔ x ∈ L := by
 intro L
 induction L with
 | nil => exact Iff.rfl
 | cons y r ih =>
  show x ∈ (if y ∈ nub r then nub r else y :: nub r) ↔ _
  split
  ·rename_i h
   rw [ih, List.mem_cons]
   constructor
   ·exact .inr
   ·rintro (rfl | h2)
    ·exact ih.1 h
    ·exact h2
  ·rw [List.mem_cons, List.mem_cons, ih]
theorem qcn : ∀ L, (nub L).length ≤ L.length := by
 intro L
 induction L with
 | nil => exact Nat.le_refl _
 | cons y r ih =>
  show (if y ∈ nub r then nub r else y :: nub r).length ≤ r.length + 1
  split
  ·omega
  ·show (nub r).length + 1 ≤ _; omega
theorem Nk12.perm {w : World} {b n : Nat} {D : DataW Unit} {L : List (List UInt8)} (h1 : w.ownsMap Tryd.prog 9 RU12 b n D) (h2 : ∀ x, has D (.string x) = true ↔ x ∈ L) : (nub L).Perm (strKeys D) :=
 Collected.perm (left := fun _ => false) ⟨qbh L, fun x => by rw [qcm, h2]; simp⟩ h1 qb0 Tryd.underlying9 (fun _ => rfl)
theorem Nk12.size {w : World} {b n : Nat} {D : DataW Unit} {L : List (List UInt8)} (h1 : w.ownsMap Tryd.prog 9 RU12 b n D) (h2 : ∀ x, has D (.string x) = true ↔ x ∈ L) : Maps.size D ≤ L.length := by
 have hp := (Nk12.perm h1 h2).length_eq
 obtain ⟨es, rfl, _⟩ := h1.keysOf
 have e : (strKeys (.map es : DataW Unit)).length = es.length := List.length_map ..
 have := qcn L
 show es.length ≤ _
 omega
theorem qd5 {L ss : List (List UInt8)} (hs : ss.Nodup) (hm : ∀ x, x ∈ ss ↔ x ∈ L) : Ris (ss.mergeSort leB) ∧ ∀ x, x ∈ ss.mergeSort leB ↔ x ∈ L := by
 have tr : ∀ a b c : List UInt8, leB a b = true → leB b c = true → leB a c = true := fun a b c h1 h2 => by simp only [leB, decide_eq_true_eq] at *; exact List.le_trans h1 h2
 have to : ∀ a b : List UInt8, (leB a b || leB b a) = true := fun a b => by simp only [leB, Bool.or_eq_true, decide_eq_true_eq]; exact List.le_total a b
 have hp := List.mergeSort_perm ss leB
 refine ⟨?_, fun x => by rw [hp.mem_iff, hm x]⟩
 have h1 := List.pairwise_mergeSort tr to ss
 have h2 : (ss.mergeSort leB).Nodup := hp.nodup_iff.2 hs
 unfold Ris
 refine (h1.and h2).imp (fun {a b} h => ?_)
 have hle : a ≤ b := by simpa [leB] using h.1
 exact lt_tri (List.not_lt.2 hle) (Ne.symm h.2)
theorem nk_new (w : World) : Nk12 (w.alloc (.map #[] 0)) w.heap.size 0 [] := ⟨.map [], World.ownsMap_made _ _ _ _, fun x => ⟨fun h => (by cases h), fun h => (by cases h)⟩⟩
theorem qe8 (w : World) (T : Xt) (v : Value) (hX : XV w v T) (hw : Wt9 w) (hm : mayX T = true) : Calls Tryd.prog 10 #[v] w fun e w' => NmA w' w.heap.size e T ∧ Below w.heap.size w w' := by
 have HMy : Hid (∀ w' : World, Below w.heap.size w w' → Calls Tryd.prog 23 #[v] w' fun e w'' => e = .returned (.bool true) ∧ Below w'.heap.size w' w'') := fun w' hb => by
  have h := tmayx w' T v (hX.later hb) (hw.later hb)
  rw [hm] at h
  exact h
 obtain ⟨U, HU⟩ : ∃ U, Hid (nmx 16 T = U) := ⟨_, rfl⟩
 have hU8 : U.length ≤ 8192 := by rw [← HU.out]; exact qbg (qai hm)
 have HGa : Hid (∀ (w' : World) (b : Nat), Below w.heap.size w w' → w.heap.size ≤ b → b < w'.heap.size → Nk12 w' b 0 [] → Calls Tryd.prog 26 #[.map (some b), v] w' fun e w'' => e = .returned (.tuple #[]) ∧ Nk12 w'' b U.length U ∧ w'.grownBy w'' (some b)) := fun w' b hb hB hbw hN => by
  have h := pgather 16 w w' T v b [] hX (qai hm) hb hB hbw hN (by rw [HU.out]; show 0 + U.length ≤ _; omega)
  rw [List.nil_append, HU.out] at h
  exact h
 have hmm := @run_makeMap Tryd.prog
 obtain ⟨⟨a, cap, rfl, _⟩, _⟩ := hX
 generalize T [] = l at *
 obtain ⟨k, n, nm, len, ln, cl⟩ := l
 dsimp only at HMy HGa ⊢
 obtain ⟨wb, HW⟩ : ∃ wb, Hid (wb = w.alloc (.cells #[.int .u8 (k : Int), .int .i64 n, .string nm, .slice a len cap, .int .i64 ln, .int .i64 cl] 25)) := ⟨_, rfl⟩
 have HX : Hid (Vn wb w.heap.size 25 #[.int .u8 (k : Int), .int .i64 n, .string nm, .slice a len cap, .int .i64 ln, .int .i64 cl]) := by show Vn _ _ _ _; rw [HW.out]; exact Vn.new w _ _
 have HB0 : Hid (Below w.heap.size w wb) := by show Below _ _ _; rw [HW.out]; exact jlow _ _
 have c0 := HX.out.cell 0 _ rfl
 have c1 := HX.out.cell 1 _ rfl
 have c2 := HX.out.cell 2 _ rfl
 have c3 := HX.out.cell 3 _ rfl
 have c4 := HX.out.cell 4 _ rfl
 have c5 := HX.out.cell 5 _ rfl
 clear hm hw
 go_enter Tryd.func10, Tryd.ntmps10
 go_wp2_with (first
  | rw [← HW.out]
  | rw [← HW2.out]
  | (go_at_call 23; go_loud (refine (HMy.out _ HB0.out).mono ?_; rintro e w1 ⟨rfl, hb1⟩; have HB1 := qa0 (jtwo HB0.out hb1); have HX1 := qa0 (HX.out.later hb1); clear hb1; obtain ⟨w2, HW2⟩ : ∃ w2, Hid (w2 = w1.alloc (.map #[] 0)) := ⟨_, rfl⟩; have HX2 := qa0 (HX1.out.later (jlow w1 (.map #[] 0))); have HB2 := qa0 (jtwo HB1.out (jlow w1 (.map #[] 0))); have HN2 : Hid (Nk12 (w1.alloc (.map #[] 0)) w1.heap.size 0 []) := nk_new w1; have hz2 := World.size_alloc w1 (.map #[] 0); rw [← HW2.out] at HX2 HB2 HN2 hz2; have t0 := HX2.out.cell 0 _ rfl; have t1 := HX2.out.cell 1 _ rfl; have t2 := HX2.out.cell 2 _ rfl; have t3 := HX2.out.cell 3 _ rfl; have t4 := HX2.out.cell 4 _ rfl; have t5 := HX2.out.cell 5 _ rfl))
  | (go_at_call 26; go_loud (refine (HGa.out _ _ HB2.out HB1.out.size (by omega) HN2.out).mono ?_; rintro e W ⟨rfl, hN3, hg3⟩; have hs1 := HB1.out.size; have HB3 := qa0 (HB2.out.grown hg3 HB2.out.size (fun g e => by cases e; exact hs1)); obtain ⟨D, hO, hDm⟩ := hN3; have hsz := Nk12.size hO hDm; have HPe := qa0 (Nk12.perm hO hDm); have HSo : Hid (Calls Tryd.prog 27 #[.func (.func 46) #[] #[.pointer (some ⟨W.heap.size, 0, none⟩)]] (W.alloc (.cells #[.map (some w1.heap.size)] 61)) _) := callsIn_wide.1 (psortedIt w1.heap.size _ D RU12 W hO (by unfold maxLen; omega) (by omega)); have HKe : Hid (Calls Tryd.prog 28 #[.map (some w1.heap.size)] W _) := callsIn_wide.1 (pkeysIt (some w1.heap.size) W); clear hO hDm hg3))
  | (go_at_call 28; go_loud (refine HKe.out.mono ?_; rintro e w4 ⟨rfl, rfl⟩))
  | (go_at_call 27; go_loud (refine HSo.out.mono ?_; rintro e w5 ⟨v, ss, rfl, hS, hrow, _, hb5⟩; have HRw := qa0 hrow; have HS := qa0 hS; have HB5 := qa0 (jtwo (jlow W (.cells #[.map (some w1.heap.size)] 61)) hb5); clear hrow hS hb5)))
 have hnd : ss.Nodup := (HS.out.trans HPe.out.symm).nodup_iff.2 (qbh U)
 have hmm : ∀ x, x ∈ ss ↔ x ∈ U := fun x => by rw [(HS.out.trans HPe.out.symm).mem_iff, qcm]
 obtain ⟨hR, hM⟩ := qd5 hnd hmm
 have hl : ss.length ≤ U.length := by have := (HS.out.trans HPe.out.symm).length_eq; have := qcn U; omega
 have hlm : (ss.mergeSort leB).length = ss.length := List.length_mergeSort _
 have h3 := HB3.out.size
 go_ret2
 refine ⟨⟨v, ss.mergeSort leB, rfl, ?_, hR, fun x => by rw [hM, ← HU.out], by omega⟩, jtwo HB3.out HB5.out⟩
 have h := HRw.out
 rw [World.size_alloc] at h
 have h' : Nw w5 (W.heap.size + 1) v (ss.mergeSort leB) := by show World.ownsRow _ _ _ _ _ _ _; rw [hlm]; exact h
 exact h'.low (by omega)
end Go.Proofs.YtgmndjbicandfaaDoor
