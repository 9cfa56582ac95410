/-
  Contracts of the wire's reference: Text, Four.
-/
import Derived.Test.YtlfmekjkgegclabHe
namespace Go.Proofs.Ytlfmekjkgegclab
open Go.RowKit
/-- The form of the n bytes f, whose length has L bytes. -/
def txf (f : Nat → Nat) (n L : Nat) : Nat → Nat := cat (nby n) f L
theorem txf_lt {f : Nat → Nat} {n L : Nat} (hf : ∀ i, i < n → f i < 256) : ∀ i, i < L + n → txf f n L i < 256 := cat_lt (fun i _ => nby_lt n i) hf
set_option maxRecDepth 20000 in
set_option maxHeartbeats 1000000 in
theorem rtext8_ok (w : World) (a : Option Addr) (n c L : Nat) (f : Nat → Nat) (ha : Sl w a n f) (h0 : a = none → n = 0 ∧ c = 0) (hn : n ≤ 4194304) (HN : Hid (NF n L)) :
    Calls Try.prog 29 #[.slice a n c] w fun e w' => ∃ v, e = .returned (.tuple #[v, .int .i64 0]) ∧ Jo w' w.heap.size 5 .u8 v (L + n) (txf f n L) ∧ Below w.heap.size w w' := by
  have HA : Hid (Sl w a n f) := ha
  have H0 : Hid (a = none → n = 0 ∧ c = 0) := h0
  have hL9 := nf_nine HN.out (by omega)
  clear ha h0
  go_enter Try.func29, Try.ntmps29
  go_wp2_with (first
    | (go_at_call 33; refine (rnum8_ok _ n L (by omega) HN).mono ?_; rintro e w1 ⟨v, rfl, ho, hb⟩; have HO1 : Hid (Jo w1 w.heap.size 5 .u8 v L (nby n)) := ho; have HS1 : Hid (Sl w1 a n f) := HA.out.later hb; have HB1 : Hid (Below w.heap.size w w1) := hb; clear ho hb)
    | (at_builtin; refine wpList_append_sl rfl _ _ rfl w.heap.size L v (nby n) rfl HO1.out a n c f rfl HS1.out H0.out (by omega) HB1.out.size ?_; intro v2 w2 ho2 _ hb2; have HO2 : Hid (Jo w2 w.heap.size 5 .u8 v2 (L + n) (txf f n L)) := ho2; have HB2 : Hid (Below w.heap.size w w2) := HB1.out.trans hb2; clear ho2 hb2))
  go_ret2
  exact ⟨_, rfl, HO2.out, HB2.out⟩
set_option maxHeartbeats 400000 in
theorem rtext8_limit (w : World) (a : Option Addr) (n c : Nat) (hn : 4194304 < n) : Calls Try.prog 29 #[.slice a n c] w fun e w' => e = .returned (.tuple #[.slice none 0 0, .int .i64 4]) ∧ w = w' := by
  have hd : decide ((4194304 : Int) < (n : Int)) = true := decide_eq_true (by omega)
  go_enter Try.func29, Try.ntmps29
  go_wp2
  go_ret2
  exact ⟨rfl, rfl⟩
/-- A number in four bytes, the highest first. -/
def fr (n j : Nat) : Nat := n / 256 ^ (3 - j) % 256
theorem fr_lt (n j : Nat) : fr n j < 256 := Nat.mod_lt _ (by decide)
set_option maxRecDepth 20000 in
set_option maxHeartbeats 400000 in
theorem rfour8_ok (w : World) (n : Nat) (hn : n < 4294967296) : Calls Try.prog 30 #[.int .u32 (n : Int)] w fun e w' => ∃ v, e = .returned v ∧ Jo w' w.heap.size 5 .u8 v 4 (fr n) ∧ Below w.heap.size w w' := by
  obtain ⟨b0, H0⟩ : ∃ b, Hid (fr n 0 = b) := ⟨_, rfl⟩
  obtain ⟨b1, H1⟩ : ∃ b, Hid (fr n 1 = b) := ⟨_, rfl⟩
  obtain ⟨b2, H2⟩ : ∃ b, Hid (fr n 2 = b) := ⟨_, rfl⟩
  obtain ⟨b3, H3⟩ : ∃ b, Hid (fr n 3 = b) := ⟨_, rfl⟩
  have e0 : (n : Int) / 16777216 = (b0 : Int) := by have : n / 16777216 % 256 = b0 := H0.out; omega
  have e1 : (n : Int) / 65536 % 256 = (b1 : Int) := by have : n / 65536 % 256 = b1 := H1.out; omega
  have e2 : (n : Int) / 256 % 256 = (b2 : Int) := by have : n / 256 % 256 = b2 := H2.out; omega
  have e3 : (n : Int) % 256 = (b3 : Int) := by have : n / 1 % 256 = b3 := H3.out; omega
  go_enter Try.func30, Try.ntmps30
  go_wp2
  go_ret
  refine ⟨_, rfl, ?_, jlow _ _⟩
  have h := World.ownsRow_lit (base := w.heap.size) (e := 5) (size := 1) w #[.int .u8 (b0 : Int), .int .u8 (b1 : Int), .int .u8 (b2 : Int), .int .u8 (b3 : Int)] 4 (Nat.le_refl _) (by unfold maxLen; omega) rfl
  have e : (jrow .u8 4 (fr n)).toList = #[Value.int .u8 (b0 : Int), .int .u8 (b1 : Int), .int .u8 (b2 : Int), .int .u8 (b3 : Int)].toList := by
    rw [← H0.out, ← H1.out, ← H2.out, ← H3.out]
    simp [jrow, List.range_succ]
  unfold Jo
  rw [e]
  exact h
end Go.Proofs.Ytlfmekjkgegclab
