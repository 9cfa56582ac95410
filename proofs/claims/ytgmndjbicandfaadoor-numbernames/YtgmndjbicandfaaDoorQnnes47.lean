/-
  Stage 12: what Names and Put of both sides answer, for NumberNames.
-/
import Derived.Test.YtgmndjbicandfaaDoorQnnes00
import Derived.Test.YtgmndjbicandfaaDoorQnnes46
set_option maxRecDepth 100000
set_option maxHeartbeats 16000000
namespace Go.Proofs.YtgmndjbicandfaaDoor
open Go.RowKit Go.Shelf Go.Maps
theorem xlk_refl : ∀ (d : Nat) (T : Xt), xlk d T T := by
 intro d
 induction d with
 | zero => intro T; trivial
 | succ d ih => intro T; exact ⟨rfl, rfl, rfl, rfl, fun i _ => ih _⟩
/-- A new list of one expression. -/
theorem qcc {w : World} {cs : List Value} {T : Xt} (h : XV w (.agg cs.toArray) T) : ∀ d, XL d (w.alloc (.cells cs.toArray 25)) (some ⟨w.heap.size, 0, none⟩) 1 (fun _ => T) := by
 obtain ⟨⟨a, cap, e, hl⟩, hok⟩ := h.later (jlow w (.cells cs.toArray 25))
 injection e with e
 have e2 : cs = [.int .u8 ((T []).k : Int), .int .i64 (T []).n, .string (T []).nm, .slice a (T []).len cap, .int .i64 (T []).ln, .int .i64 (T []).cl] := by simpa using congrArg Array.toList e
 subst e2
 intro d i hi
 obtain rfl : i = 0 := by omega
 refine ⟨w.heap.size, 0, rfl, XC.at_ (cs := [.int .u8 ((T []).k : Int), .int .i64 (T []).n, .string (T []).nm, .slice a (T []).len cap, .int .i64 (T []).ln, .int .i64 (T []).cl]) ⟨a, cap, rfl, hok, hl⟩ (fun j hj => ?_) d⟩
 have hv := Vn.new w 25 (List.toArray [.int .u8 ((T []).k : Int), .int .i64 (T []).n, .string (T []).nm, .slice a (T []).len cap, .int .i64 (T []).ln, .int .i64 (T []).cl])
 rw [Nat.zero_mul, Nat.zero_add, cell_of_row _ _ _ _ _ _ hv]
 simp
theorem qec (w : World) (T : Xt) (v : Value) (hX : XV w v T) (hw : Wt9 w) : ∃ (Q : List (List UInt8)) (E : Nat), Q.length ≤ 8192 ∧
  (∀ w', Below w.heap.size w w' → Calls Tryd.prog 10 #[v] w' fun e w'' => (∃ x c, e = .returned (.tuple #[.slice x Q.length c, .int .i64 (E : Int)]) ∧ Nw w'' 0 (.slice x Q.length c) Q) ∧ Below w'.heap.size w' w'') ∧
  (∀ w', Below w.heap.size w w' → Calls Tryd.prog 11 #[v] w' fun e w'' => (∃ x c, e = .returned (.tuple #[.slice x Q.length c, .int .i64 (E : Int)]) ∧ Nw w'' 0 (.slice x Q.length c) Q) ∧ Below w'.heap.size w' w'') := by
 cases hm : mayX T with
 | false =>
  refine ⟨[], 2, Nat.zero_le _, fun w' hb => (qea w' T v (hX.later hb) (hw.later hb) hm).mono ?_, fun w' hb => (qeb w' T v (hX.later hb) hm).mono ?_⟩
  ·rintro e w'' ⟨rfl, hb'⟩
   exact ⟨⟨none, 0, rfl, Nw.nil _ _⟩, hb'⟩
  ·rintro e w'' ⟨rfl, hb'⟩
   exact ⟨⟨none, 0, rfl, Nw.nil _ _⟩, hb'⟩
 | true =>
  obtain ⟨hR, hM⟩ := qd5 (L := nmx 16 T) (qbh (nmx 16 T)) (fun x => qcm _)
  have hl : ((nub (nmx 16 T)).mergeSort leB).length ≤ 8192 := by
   rw [List.length_mergeSort]
   have := qcn (nmx 16 T)
   have := qbg (qai hm)
   omega
  generalize (nub (nmx 16 T)).mergeSort leB = Q at *
  have key : ∀ (w'' : World) (B : Nat) (e : Ending), NmA w'' B e T → ∃ x c, e = .returned (.tuple #[.slice x Q.length c, .int .i64 ((0 : Nat) : Int)]) ∧ Nw w'' 0 (.slice x Q.length c) Q := by
   rintro w'' B e ⟨v', Q', rfl, hN, hR', hM', _⟩
   obtain rfl : Q' = Q := ris_eq hR' hR (fun x => (hM' x).trans (hM x).symm)
   obtain ⟨x, c, rfl, _⟩ := hN.form
   exact ⟨x, c, rfl, hN.low (Nat.zero_le _)⟩
  refine ⟨Q, 0, hl, fun w' hb => (qe8 w' T v (hX.later hb) (hw.later hb) hm).mono ?_, fun w' hb => (qe6 w' T v (hX.later hb) hm).mono ?_⟩
  ·rintro e w'' ⟨h, hb'⟩
   exact ⟨key _ _ _ h, hb'⟩
  ·rintro e w'' ⟨h, hb'⟩
   exact ⟨key _ _ _ h, hb'⟩
/-- The expression that is none. -/
def x00 : Xt := fun _ => ⟨0, 0, ⟨#[]⟩, 0, 0, 0⟩
theorem x00_v (w : World) : XV w (.agg #[.int .u8 0, .int .i64 0, .string ⟨#[]⟩, .slice none 0 0, .int .i64 0, .int .i64 0]) x00 := ⟨⟨none, 0, rfl, fun d i hi => absurd hi (Nat.not_lt_zero _)⟩, ⟨by decide, by decide, by decide, by decide, by decide⟩⟩
theorem put_fix (w : World) (T0 T1 : Xt) (v0 v1 : Value) (s : ByteArray) (h0 : XV w v0 T0) (h1 : XV w v1 T1) (hs : s.size ≤ 140737488351232) (hw : Wt9 w) : ∃ (Z : Xt) (E : Nat), FinX 16 Z ∧ Pd 16 Z ∧
  (∀ w', Below w.heap.size w w' → Calls Tryd.prog 12 #[v0, .string s, v1] w' fun e w'' => (∃ v', e = .returned (.tuple #[v', .int .i64 (E : Int)]) ∧ XV w'' v' Z) ∧ Below w'.heap.size w' w'') ∧
  (∀ w', Below w.heap.size w w' → Calls Tryd.prog 13 #[v0, .string s, v1] w' fun e w'' => (∃ v', e = .returned (.tuple #[v', .int .i64 (E : Int)]) ∧ XV w'' v' Z) ∧ Below w'.heap.size w' w'') := by
 have key : ∃ (Z : Xt) (E : Nat), FinX 16 Z ∧ Pd 16 Z ∧ ∀ (w'' : World) (v' : Value) (E' : Nat), PutA w'' T0 T1 s v' E' → E' = E ∧ XV w'' v' Z := by
  cases hc : (mayX T0 && (mayX T1 && isN s)) with
  | false =>
   refine ⟨x00, 2, fun i hi => absurd hi (Nat.not_lt_zero _), .inr rfl, fun w'' v' E' h => ?_⟩
   rcases h with ⟨e, _, h⟩ | ⟨_, h, _⟩ | ⟨_, h, _⟩
   ·subst h; exact ⟨e, x00_v _⟩
   ·rw [hc] at h; cases h
   ·rw [hc] at h; cases h
  | true =>
   cases hz : mayX (xput s T1 T0) with
   | false =>
    refine ⟨x00, 4, fun i hi => absurd hi (Nat.not_lt_zero _), .inr rfl, fun w'' v' E' h => ?_⟩
    rcases h with ⟨_, h, _⟩ | ⟨e, _, _, h⟩ | ⟨_, _, h, _⟩
    ·rw [hc] at h; cases h
    ·subst h; exact ⟨e, x00_v _⟩
    ·rw [hz] at h; cases h
   | true =>
    refine ⟨xput s T1 T0, 0, (qai hz).fin, .inl (qai hz), fun w'' v' E' h => ?_⟩
    rcases h with ⟨_, h, _⟩ | ⟨_, _, h, _⟩ | ⟨e, _, _, h⟩
    ·rw [hc] at h; cases h
    ·rw [hz] at h; cases h
    ·exact ⟨e, h⟩
 obtain ⟨Z, E, hf, hp, hk⟩ := key
 refine ⟨Z, E, hf, hp, fun w' hb => (put_any w' T0 T1 v0 v1 s (h0.later hb) (h1.later hb) hs (hw.later hb)).mono ?_, fun w' hb => (rput_any w' T0 T1 v0 v1 s (h0.later hb) (h1.later hb) hs).mono ?_⟩
 ·rintro e w'' ⟨⟨v', E', rfl, h⟩, hb'⟩
  obtain ⟨rfl, hx⟩ := hk _ _ _ h
  exact ⟨⟨v', rfl, hx⟩, hb'⟩
 ·rintro e w'' ⟨⟨v', E', rfl, h⟩, hb'⟩
  obtain ⟨rfl, hx⟩ := hk _ _ _ h
  exact ⟨⟨v', rfl, hx⟩, hb'⟩
end Go.Proofs.YtgmndjbicandfaaDoor
