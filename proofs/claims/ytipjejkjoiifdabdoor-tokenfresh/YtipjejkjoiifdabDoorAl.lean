/-
  What TokenFresh needs: room, TokenNames as a call.
-/
import Derived.Test.YtipjejkjoiifdabDoorAk
namespace Go.Proofs.YtipjejkjoiifdabDoor
open Go.RowKit
theorem CutP.room {w w' : World} {e : Ending} {s : ByteArray} {L : List Tk} {E a m : Nat} {f0 f1 f2 : Int} (h : CutP w w' e s L E a) (hf : (if E = 0 then #[.int .i64 0, .int .i64 0, .int .i64 0] else #[.int .i64 (E : Int), .int .i64 (lnn s a : Nat), .int .i64 (cln s a : Nat)]) = #[Value.int .i64 f0, .int .i64 f1, .int .i64 f2]) (hm : (if E = 0 then L.length else 0) = m) :
    ∃ (x : Option Addr) (d g : Nat), e = .returned (.tuple #[.slice x m d, .agg #[.int .i64 f0, .int .i64 f1, .int .i64 f2]]) ∧ (0 < m → x = some ⟨g, 0, none⟩ ∧ w.heap.size ≤ g ∧ Rm w' g (m * 5)) ∧ Below w.heap.size w w' := by
  obtain ⟨v, he, h1, h2, hb⟩ := h
  rw [hf] at he
  by_cases hE : E = 0
  · rw [if_pos hE] at hm
    subst hm
    obtain ⟨x, d, rfl, _⟩ := (h1 hE).form
    by_cases h0 : 0 < L.length
    · obtain ⟨g, e1, e2, e3⟩ := (h1 hE).rm h0
      exact ⟨x, d, g, he, fun _ => ⟨e1, e2, e3⟩, hb⟩
    · exact ⟨x, d, 0, he, fun h => absurd h h0, hb⟩
  · rw [if_neg hE] at hm
    subst hm
    have := h2 hE
    subst this
    exact ⟨none, 0, 0, he, fun h => by omega, hb⟩
set_option maxRecDepth 20000 in
set_option maxHeartbeats 4000000 in
theorem names_any (w : World) (hw : Wt9 w) : Calls Tryd.prog 8 #[] w fun e w' => e = .returned (.bool true) ∧ Below w.heap.size w w' := by
  have hsg : sgB.toList = [61, 59, 44, 40, 41, 91, 93, 43, 45, 42, 47, 37] := by rw [ByteArray.toList_eq]; rfl
  go_enter Tryd.func8, Tryd.ntmps8
  go_wp2_with (first
    | (go_at_call 5; refine (twords _ hw).mono ?_; rintro e w1 ⟨b, d, T, rfl, _, h1, hb⟩; have HS1 := jhid9 h1; have HB1 := jhid9 hb; clear h1 hb)
    | (go_at_call 32; refine (rwords_any _).mono ?_; rintro e w2 ⟨b2, rfl, _, h1, hb⟩; have HS2 := jhid9 h1; have HS1b := jhid9 (HS1.out.later hb); have HB2 : Hid (Below w.heap.size w w2) := jtwo HB1.out hb; clear h1 hb)
    | (go_at_call 33; refine (tsigns _).mono ?_; rintro e w3 ⟨rfl, hb⟩; have HS3 := jhid9 (HS1b.out.later hb); have HS4 := jhid9 (HS2.out.later hb); have HB3 : Hid (Below w.heap.size w w3) := jtwo HB2.out hb; clear hb))
  go_loopw [3] (fun vi wr => ∃ i : Nat, i ≤ 17 ∧ vi = .int .i64 (i : Int) ∧ Below w3.heap.size w3 wr) (fun vi _ => 17 - (intOf vi).toNat)
  case atStart => exact ⟨0, by omega, rfl, Below.refl _ _⟩
  case round =>
    obtain ⟨i, hi, rfl, hb⟩ := hrel
    have HBr := jhid9 hb
    by_cases hlt : i < 17
    · have hc := (HS3.out.later hb).cell i (by rw [wds_len]; exact hlt)
      have hd := (HS4.out.later hb).cell i (by rw [wds_len]; exact hlt)
      generalize wds.getD i default = y at hc hd
      clear hb
      go_wp2
      go_quiet (fail)
      go_wp2
      exact ⟨⟨i + 1, by omega, by go_num, below_drewN HBr.out _⟩, by simp [intOf]; omega⟩
    · obtain rfl : i = 17 := by omega
      go_wp2
      go_ret
      exact ⟨rfl, jtwo HB3.out HBr.out⟩
end Go.Proofs.YtipjejkjoiifdabDoor
