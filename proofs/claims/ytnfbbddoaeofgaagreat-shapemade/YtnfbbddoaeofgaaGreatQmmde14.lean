/-
  Contracts of the reference's times, Pow, Exp, Log, Inv, Div.
-/
import Derived.Test.YtnfbbddoaeofgaaGreatQmmde00
import Derived.Test.YtnfbbddoaeofgaaGreatQmmde05
set_option maxRecDepth 100000
set_option maxHeartbeats 16000000
namespace Go.Proofs.YtnfbbddoaeofgaaGreat
open Go.RowKit
theorem qed (a n : Nat) (w : World) (ha : a < 256) (hn : n ≤ 255) : Calls Tryz.prog 149 #[.int .u8 (a : Int), .int .i64 (n : Int)] w fun e w' => e = .returned (.int .u8 (fpow a n : Nat)) ∧ w' = w := by
 go_enter Tryz.func149, Tryz.ntmps149
 go_wp2
 go_loop [5, 6] (fun p i => ∃ k : Nat, k ≤ n ∧ i = .int .i64 (k : Int) ∧ p = .int .u8 ((fpow a k : Nat) : Int)) (fun _ i => n - (intOf i).toNat)
 case atStart => exact ⟨0, by omega, rfl, rfl⟩
 case round =>
  obtain ⟨k, hk, rfl, rfl⟩ := hrel
  have hp := qba a k
  by_cases hlt : k < n
  ·go_wp2_with (go_at_call 70; refine (qdh _ _ _ hp ha).mono ?_; rintro e w' ⟨rfl, rfl⟩)
   exact ⟨⟨k + 1, by omega, by go_num, rfl⟩, by simp [intOf]; omega⟩
  ·obtain rfl : k = n := by omega
   go_wp2
   go_ret
   exact ⟨rfl, rfl⟩
theorem qfw (a : Nat) (n : Int) (ha : a < 256) (h0 : a ≠ 0) : pwv a n = fpow a (inb n).toNat := by
 unfold pwv
 by_cases h : n = 0
 ·subst h; rfl
 ·rw [if_neg h, if_neg h0, qif, qjf a _ ha h0]
theorem rpow_any (a : Nat) (n : Int) (w : World) (ha : a < 256) (hn : I64 n) :
  Calls Tryz.prog 116 #[.int .u8 (a : Int), .int .i64 n] w fun e w' => e = .returned (.tuple #[.int .u8 (pwv a n : Nat), .int .i64 (pwe a n)]) ∧ w' = w := by
 obtain ⟨h1, h2⟩ := hn
 by_cases h0 : a = 0
 ·subst h0
  by_cases h3 : n < 0
  ·have e1 : pwv 0 n = 0 := by simp [pwv]; omega
   have e2 : pwe 0 n = 5 := by simp [pwe, h3]
   rw [e1, e2]
   clear e1 e2
   go_enter Tryz.func116, Tryz.ntmps116
   go_wp2
   go_ret2
   exact ⟨rfl, rfl⟩
  by_cases h4 : n = 0
  ·subst h4
   go_enter Tryz.func116, Tryz.ntmps116
   go_wp2
   go_ret2
   exact ⟨rfl, rfl⟩
  ·have e1 : pwv 0 n = 0 := by simp [pwv]; omega
   have e2 : pwe 0 n = 0 := by simp [pwe, h3]
   rw [e1, e2]
   clear e1 e2
   have t : (n == 0) = false := by simpa using h4
   clear h4
   go_enter Tryz.func116, Tryz.ntmps116
   go_wp2
   go_ret2
   exact ⟨rfl, rfl⟩
 ·have e2 : pwe a n = 0 := by simp [pwe, h0]
  obtain ⟨m, hm, hm2, HM⟩ : ∃ m : Nat, inb n = (m : Int) ∧ m < 255 ∧ Hid (pwv a n = fpow a m) := ⟨(inb n).toNat, by have := qes n; omega, by have := qes n; omega, qfw a n ha h0⟩
  rw [e2, HM.out]
  have t0 : ((a : Int) == 0) = false := by simp; omega
  have HB : Hid (inb n = (m : Int)) := hm
  clear e2 hm h0
  by_cases h3 : 0 ≤ n
  ·have hr : n % 255 = (m : Int) := HB.out
   go_enter Tryz.func116, Tryz.ntmps116
   go_wp2_with (go_at_call 149; refine (qed a m _ ha (by omega)).mono ?_; rintro e w' ⟨rfl, rfl⟩)
   go_ret2
   exact ⟨rfl, rfl⟩
  ·have HT : Hid (n.tmod 255 = -((-n) % 255)) := qha n (by omega)
   have HB2 : Hid (n % 255 = (m : Int)) := HB.out
   by_cases h5 : n.tmod 255 < 0
   ·have h6 : wrap64 (n.tmod 255 + 255) = (m : Int) := by
     have := HT.out; have := HB2.out; unfold wrap64; omega
    go_enter Tryz.func116, Tryz.ntmps116
    go_wp2_with (go_at_call 149; refine (qed a m _ ha (by omega)).mono ?_; rintro e w' ⟨rfl, rfl⟩)
    go_ret2
    exact ⟨rfl, rfl⟩
   ·have h6 : n.tmod 255 = (m : Int) := by
     have := HT.out; have := HB2.out; omega
    clear h5
    go_enter Tryz.func116, Tryz.ntmps116
    go_wp2_with (go_at_call 149; refine (qed a m _ ha (by omega)).mono ?_; rintro e w' ⟨rfl, rfl⟩)
    go_ret2
    exact ⟨rfl, rfl⟩
theorem qfa (a : Nat) (w : World) (ha : a < 256) : Calls Tryz.prog 124 #[.int .u8 (a : Int)] w fun e w' => e = .returned (.tuple #[.int .u8 (finv a : Nat), .int .i64 (ive a)]) ∧ w' = w := by
 go_enter Tryz.func124, Tryz.ntmps124
 go_wp2
 go_loop [4] (fun i => ∃ k : Nat, 1 ≤ k ∧ k ≤ 256 ∧ i = .int .i64 (k : Int) ∧ Hid (∀ j, j < k → fm a j ≠ 1)) (fun i => 256 - (intOf i).toNat)
 case atStart => exact ⟨1, by omega, by omega, rfl, fun j hj => by rw [show j = 0 by omega, qaa]; decide⟩
 case round =>
  obtain ⟨k, hk1, hk, rfl, HJ⟩ := hrel
  by_cases hlt : k < 256
  ·by_cases he : fm a k = 1
   ·have HE : Hid (fm a k = 1) := he
    have t : (((fm a k : Nat) : Int) == 1) = true := by simp [he]
    clear he
    go_wp2_with (go_at_call 70; refine (qdh _ _ _ ha hlt).mono ?_; rintro e w' ⟨rfl, rfl⟩)
    go_ret2
    have e := qih a k ha hlt HE.out
    exact ⟨ret_two (by rw [← e.2]) (by simp [ive, e.1]), rfl⟩
   ·have t : (((fm a k : Nat) : Int) == 1) = false := by simp; omega
    have HJ2 : Hid (∀ j, j < k + 1 → fm a j ≠ 1) := by
     intro j hj
     by_cases ej : j = k
     ·subst ej; exact he
     ·exact HJ.out j (by omega)
    clear he
    go_wp2_with (go_at_call 70; refine (qdh _ _ _ ha hlt).mono ?_; rintro e w' ⟨rfl, rfl⟩)
    exact ⟨⟨k + 1, by omega, by omega, by go_num, HJ2⟩, by simp [intOf]; omega⟩
  ·have h0 : a = 0 := by
    by_cases h : a = 0
    ·exact h
    ·exact absurd (qay a ha h) (HJ.out _ (by have := qae a; omega))
   subst h0
   go_wp2
   go_ret2
   exact ⟨rfl, rfl⟩
end Go.Proofs.YtnfbbddoaeofgaaGreat
