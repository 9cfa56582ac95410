/-
  Stage 22: termCount, isBetter.
-/
import Derived.Test.YthdgpmanijifoaaQbbst00
import Derived.Test.YthdgpmanijifoaaQbbst22
set_option maxRecDepth 100000
set_option maxHeartbeats 16000000
namespace Go.Proofs.Ythdgpmanijifoaa
open Go.RowKit
theorem qbs (nt : Nat → Nat) (B : Nat) : ∀ n, (∀ k, k < n → nt k ≤ B) → tsm nt n ≤ n * B
 | 0, _ => Nat.zero_le _
 | n + 1, h => by
  have h1 := qbs nt B n (fun k hk => h k (by omega))
  have h2 := h n (by omega)
  rw [tsm, Nat.succ_mul]
  omega
theorem ftc_any (w : World) (a b c : Option Addr) (p q r : Nat) (F : Fl) (h : FlR w a b c F) (hm : MayP F) :
  Calls Try.prog 22 #[flv a F.ni p b F.nn q c F.no r] w fun e w' => e = .returned (.int .i64 (tsm F.nt F.nn : Nat)) ∧ Below w.heap.size w w' := by
 have HN := qa0 h.nodes
 have hn4 := hm.n4
 obtain ⟨ni, inp, nn, nt, of, fc, no, out⟩ := F
 dsimp only at HN hn4 ⊢
 have HBnd : Hid (∀ k, k < nn → nt k ≤ 140737488351232) := fun k hk => (HN.out k hk).1
 have HB0 := qa0 (jlow w (.cells #[.slice a ni p, .slice b nn q, .slice c no r] 25))
 obtain ⟨SF, HSF⟩ : ∃ x, Hid (tsm nt nn = x) := ⟨_, rfl⟩
 rw [HSF.out]
 clear h hm
 go_enter Try.func22, Try.ntmps22
 go_wp2
 go_loopw [3, 9] (fun vs vi wr => ∃ i : Nat, i ≤ nn ∧ vi = .int .i64 (i : Int) ∧ vs = .int .i64 (tsm nt i : Nat) ∧ Below w.heap.size w wr) (fun _ vi _ => nn - (intOf vi).toNat)
 case atStart => exact ⟨0, by omega, rfl, rfl, HB0.out⟩
 case round =>
  clear HB0
  obtain ⟨i, hie, rfl, rfl, hb⟩ := hrel
  have HB := qa0 hb
  obtain ⟨s, HS⟩ : ∃ x, Hid (tsm nt i = x) := ⟨_, rfl⟩
  have hs : s ≤ i * 140737488351232 := by rw [← HS.out]; exact qbs nt _ i (fun k hk => HBnd.out k (by omega))
  rw [HS.out]
  by_cases hlt : i < nn
  ·obtain ⟨hnt, x, o, t, d, rfl, hc, htm⟩ := (HN.out.later hb) i hlt
   obtain ⟨n, HK⟩ : ∃ k, Hid (nt i = k) := ⟨_, rfl⟩
   rw [HK.out] at hnt hc
   have p0 : (0 : Int) ≤ (i : Int) := by omega
   have p1 : (i : Int) < (nn : Int) := by omega
   have w2' : IntKind.i64.wrap ((s : Int) + (n : Int)) = (s : Int) + (n : Int) := by rw [IntKind.wrap_i64]; omega
   have HSx : Hid (tsm nt (i + 1) = s + n) := by show tsm nt i + nt i = _; rw [HS.out, HK.out]
   clear htm hb hs
   go_wp2
   exact ⟨⟨i + 1, by omega, by go_num, by rw [HSx.out]; simp, HB.out⟩, by simp [intOf]; omega⟩
  ·obtain rfl : i = nn := by omega
   obtain rfl : s = SF := by rw [← HS.out, HSF.out]
   clear hb
   go_wp2
   go_ret
   exact ⟨rfl, HB.out⟩
theorem AnsB.dec {P : Prop} (s : Bool) (h : s = true ↔ P) : AnsB (.returned (.bool s)) P := ⟨s, rfl, h⟩
theorem fib_any (w : World) (x y : Ky) (m n : Nat) : Calls Try.prog 24 #[prv x (m : Nat), prv y (n : Nat)] w fun e w' => AnsB e (better (x, m) (y, n)) ∧ Below w.heap.size w w' := by
 obtain ⟨x1, x2, x3⟩ := x
 obtain ⟨y1, y2, y3⟩ := y
 by_cases h1 : m = n
 ·have e1 : ((m : Int) != (n : Int)) = false := by simp; omega
  by_cases h2 : x1 = y1
  ·have e2 : (x1 != y1) = false := by simp; omega
   by_cases h3 : x2 = y2
   ·have e3 : (x2 != y2) = false := by simp; omega
    go_enter Try.func24, Try.ntmps24
    go_wp2
    go_ret
    exact ⟨AnsB.dec _ (by unfold better lexlt; dsimp only; simp; omega), jtwo (jlow _ _) (jlow _ _)⟩
   ·have e3 : (x2 != y2) = true := by simp; omega
    go_enter Try.func24, Try.ntmps24
    go_wp2
    go_ret
    exact ⟨AnsB.dec _ (by unfold better lexlt; dsimp only; simp; omega), jtwo (jlow _ _) (jlow _ _)⟩
  ·have e2 : (x1 != y1) = true := by simp; omega
   go_enter Try.func24, Try.ntmps24
   go_wp2
   go_ret
   exact ⟨AnsB.dec _ (by unfold better lexlt; dsimp only; simp; omega), jtwo (jlow _ _) (jlow _ _)⟩
 ·have e1 : ((m : Int) != (n : Int)) = true := by simp; omega
  go_enter Try.func24, Try.ntmps24
  go_wp2
  go_ret
  exact ⟨AnsB.dec _ (by unfold better lexlt; dsimp only; simp; omega), jtwo (jlow _ _) (jlow _ _)⟩
end Go.Proofs.Ythdgpmanijifoaa
