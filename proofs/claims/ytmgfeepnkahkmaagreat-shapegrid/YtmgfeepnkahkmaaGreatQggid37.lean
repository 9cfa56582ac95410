/-
  The document's answer: codes by their numbers: plain, Reed, Cross.
  The document's answer: codes of portions.
  Codes of portions: Pyramid.
  The document's answer: codes of portions.
  The document's answer: codes of portions, pyramids.
  The document's Local, Pyramid and Same; the law's like; what both sides answer, in pairs.
-/
import Derived.Test.YtmgfeepnkahkmaaGreatQggid00
import Derived.Test.YtmgfeepnkahkmaaGreatQggid35
import Derived.Test.YtmgfeepnkahkmaaGreatQggid36
set_option maxRecDepth 100000
set_option maxHeartbeats 16000000
namespace Go.Proofs.YtmgfeepnkahkmaaGreat
open Go.RowKit
theorem qe5 (K : IntKind) (k : Nat) (f : Nat → Nat) : (jrow K k f).toList ++ [.int K (f k : Nat)] = (jrow K (k + 1) f).toList := by simp [jrow, List.range_succ]
theorem qfa {w : World} {B g n : Nat} {T : TypeId} {s : Nat} {v : Value} {xs : List Value} (h : w.ownsRow B T s v n xs) (hg : g < B) : v.ownBlock = none ∨ v.ownBlock ≠ some g := by
 cases e : v.ownBlock with
 | none => exact .inl rfl
 | some x => exact .inr (fun e2 => by have := qab h x e; cases e2; omega)
theorem Vq.lowB {w w' : World} {b B : Nat} {T : TypeId} {xs : Array Value} (h : Vq w b T xs) (hb : Below B w w') (hlt : b < B) : Vq w' b T xs := by unfold Vq; rw [hb.block b hlt]; exact h
open Go.RowKit
theorem qfy (w : World) (n : Nat) : Below w.heap.size w (w.drewN n) := ⟨rfl, rfl, rfl, Nat.le_refl _, fun _ _ => rfl⟩
/-- Two lists of sets are the same. -/
def gsB (q q' : Nat → Nat) : Nat → Bool
 | 0 => true
 | j + 1 => gsB q q' j && (q j == q' j)
theorem gsB_self (q : Nat → Nat) : ∀ j, gsB q q j = true := by
 intro j
 induction j with
 | zero => rfl
 | succ j ih => simp [gsB, ih]
theorem gsB_no {q q' : Nat → Nat} {m j : Nat} (hj : j < m) (h : q j ≠ q' j) : gsB q q' m = false := by
 induction m with
 | zero => omega
 | succ m ih =>
  by_cases e : j = m
  ·subst e; simp [gsB, h]
  ·simp [gsB, ih (by omega)]
theorem gsB_yes {q q' : Nat → Nat} : ∀ {m}, (∀ j, j < m → q j = q' j) → gsB q q' m = true := by
 intro m
 induction m with
 | zero => intro _; rfl
 | succ m ih => intro h; simp [gsB, ih (fun j hj => h j (by omega)), h m (by omega)]
theorem rsame16 (w : World) (r c r' c' : Int) (a b a' b' : Option Addr) (n k m d n' k' m' d' : Nat) (f f' q q' : Nat → Nat) (ha : Sl w a n f) (ha' : Sl w a' n' f') (hb : Jl w b .u64 m (fun i => (q i : Int))) (hb' : Jl w b' .u64 m' (fun i => (q' i : Int))) (hm : m ≤ 17592186044416) (s : Bool) (HS : Hid ((likeB r c r' c' n n' f f' && (decide (m = m') && gsB q q' m)) = s)) :
  Calls Tryz.prog 19 #[cv r c a n k b m d, cv r' c' a' n' k' b' m' d'] w fun e w' => e = .returned (.bool s) ∧ Below w.heap.size w w' := by
 obtain ⟨wb, HW⟩ : ∃ wb, Hid ((w.alloc (.cells #[.int .i64 r, .int .i64 c, .slice a n k, .slice b m d] 27)).alloc (.cells #[.int .i64 r', .int .i64 c', .slice a' n' k', .slice b' m' d'] 27) = wb) := ⟨_, rfl⟩
 have HB0 : Hid (Below w.heap.size w wb) := by rw [← HW.out]; exact qa0 (qa1 _ _) (qa1 _ _)
 have HA : Hid (Vq wb w.heap.size 27 #[.int .i64 r, .int .i64 c, .slice a n k, .slice b m d]) := by rw [← HW.out]; exact (Vq.new w _ _).later (qa1 _ _)
 have HC : Hid (Vq wb (w.heap.size + 1) 27 #[.int .i64 r', .int .i64 c', .slice a' n' k', .slice b' m' d']) := by rw [← HW.out]; exact Vq.new1 _ _ _ _
 have HSa : Hid (Sl wb a n f) := ha.later HB0.out
 have HSa' : Hid (Sl wb a' n' f') := ha'.later HB0.out
 have HJ : Hid (Jl wb b .u64 m (fun i => (q i : Int))) := hb.later HB0.out
 have HJ' : Hid (Jl wb b' .u64 m' (fun i => (q' i : Int))) := hb'.later HB0.out
 obtain ⟨lb, HLb⟩ : ∃ lb, Hid (likeB r c r' c' n n' f f' = lb) := ⟨_, rfl⟩
 rw [HLb.out] at HS
 have HLi : Hid (∀ w, Sl w a n f → Sl w a' n' f' → Calls Tryz.prog 51 #[mv r c a n k, mv r' c' a' n' k'] w fun e w' => e = .returned (.bool lb) ∧ Below w.heap.size w w') := fun w h1 h2 => by rw [← HLb.out]; exact qi4 w r c r' c' a a' n n' k k' f f' h1 h2
 have a0 := HA.out.cell 0 _ rfl
 have a1 := HA.out.cell 1 _ rfl
 have a2 := HA.out.cell 2 _ rfl
 have b0 := HC.out.cell 0 _ rfl
 have b1 := HC.out.cell 1 _ rfl
 have b2 := HC.out.cell 2 _ rfl
 clear ha ha' hb hb' HLb
 rw [← HW.out] at a0 a1 a2 b0 b1 b2
 cases lb with
 | false =>
  obtain rfl : s = false := by rw [← HS.out]; rfl
  clear HS
  go_enter Tryz.func19, Tryz.ntmps19
  go_wp2_with (go_at_call 51; rw [HW.out]; refine (HLi.out _ HSa.out HSa'.out).mono ?_; rintro e w1 ⟨rfl, hb1⟩; have HB1 : Hid (Below wb.heap.size wb w1) := hb1; clear hb1)
  go_ret
  exact ⟨rfl, qa0 HB0.out HB1.out⟩
 | true =>
  by_cases hmm : m = m'
  ·subst hmm
   have HS2 : Hid (gsB q q' m = s) := by show _ = _; rw [← HS.out]; simp
   have gm : ((m : Int) != (m : Int)) = false := by simp
   clear HS
   go_enter Tryz.func19, Tryz.ntmps19
   go_wp2_with (go_at_call 51; rw [HW.out]; refine (HLi.out _ HSa.out HSa'.out).mono ?_; rintro e w1 ⟨rfl, hb1⟩; have HB1 : Hid (Below wb.heap.size wb w1) := hb1; have a3 := (HA.out.later hb1).cell 3 _ rfl; have b3 := (HC.out.later hb1).cell 3 _ rfl; clear hb1)
   go_loopw [5] (fun j wr => ∃ i : Nat, i ≤ m ∧ j = .int .i64 (i : Int) ∧ (∀ t, t < i → q t = q' t) ∧ Below wb.heap.size wb wr) (fun j _ => m - (intOf j).toNat)
   case atStart => exact ⟨0, by omega, rfl, fun t ht => by omega, HB1.out⟩
   case round =>
    clear a3 b3 HB1
    obtain ⟨i, hi, rfl, heq, hbr⟩ := hrel
    have HEq : Hid (∀ t, t < i → q t = q' t) := heq
    have HB1 : Hid (Below wb.heap.size wb wr) := hbr
    have a3 := (HA.out.later hbr).cell 3 _ rfl
    have b3 := (HC.out.later hbr).cell 3 _ rfl
    clear heq hbr
    by_cases hlt : i < m
    ·obtain ⟨x, o, eb, hci⟩ := HJ.out i hlt
     obtain ⟨x', o', eb', hci'⟩ := HJ'.out i hlt
     subst eb
     subst eb'
     have e1 : wr.cell? ⟨x, o + i, none⟩ = some (.int .u64 ((q i : Nat) : Int)) := keepc HB1.out hci
     have e2 : wr.cell? ⟨x', o' + i, none⟩ = some (.int .u64 ((q' i : Nat) : Int)) := keepc HB1.out hci'
     obtain ⟨y, HY⟩ : ∃ y, Hid (q i = y) := ⟨_, rfl⟩
     obtain ⟨y', HY'⟩ : ∃ y, Hid (q' i = y) := ⟨_, rfl⟩
     rw [HY.out] at e1
     rw [HY'.out] at e2
     have i0' : (0 : Int) ≤ (i : Int) := Int.natCast_nonneg _
     have i1' : (i : Int) < (m : Int) := by omega
     clear hci hci'
     by_cases hy : y = y'
     ·have gy : ((y : Int) != (y' : Int)) = false := by simp [hy]
      have HN : Hid (∀ t, t < i + 1 → q t = q' t) := fun t ht => by
       by_cases e : t = i
       ·subst e; rw [HY.out, HY'.out]; exact hy
       ·exact HEq.out t (by omega)
      clear hy
      go_wp2
      go_quiet (fail)
      go_wp2
      exact ⟨⟨i + 1, by omega, by go_num, HN.out, qa0 HB1.out (qfy _ _)⟩, by simp [intOf]; omega⟩
     ·have gy : ((y : Int) != (y' : Int)) = true := by simp; omega
      obtain rfl : s = false := by rw [← HS2.out]; exact gsB_no hlt (by rw [HY.out, HY'.out]; exact hy)
      clear hy HS2
      go_wp2
      go_quiet (fail)
      go_wp2
      go_ret
      exact ⟨rfl, qa0 HB0.out (qa0 HB1.out (qfy _ _))⟩
    ·obtain rfl : i = m := by omega
     obtain rfl : s = true := by rw [← HS2.out]; exact gsB_yes HEq.out
     clear HS2
     go_wp2
     go_ret
     exact ⟨rfl, qa0 HB0.out HB1.out⟩
  ·obtain rfl : s = false := by rw [← HS.out]; simp [hmm]
   have gm : ((m : Int) != (m' : Int)) = true := by simp; omega
   clear HS hmm
   go_enter Tryz.func19, Tryz.ntmps19
   go_wp2_with (go_at_call 51; rw [HW.out]; refine (HLi.out _ HSa.out HSa'.out).mono ?_; rintro e w1 ⟨rfl, hb1⟩; have HB1 : Hid (Below wb.heap.size wb w1) := hb1; have a3 := (HA.out.later hb1).cell 3 _ rfl; have b3 := (HC.out.later hb1).cell 3 _ rfl; clear hb1)
   go_ret
   exact ⟨rfl, qa0 HB0.out HB1.out⟩
end Go.Proofs.YtmgfeepnkahkmaaGreat
