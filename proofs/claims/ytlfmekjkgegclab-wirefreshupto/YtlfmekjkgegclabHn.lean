/-
  The anchor of stage 8; parameters as lists with room; lists that are the same.
-/
import Derived.Test.YtlfmekjkgegclabHm
import Derived.Lib.SlBytesConst
namespace Go.Proofs.Ytlfmekjkgegclab
open Go.RowKit
theorem bt_of_row (w : World) (a : Option Addr) (len cap : Nat) (zs : List Int)
    (h : (a = none ∧ len = 0 ∧ cap = 0 ∧ zs = []) ∨ ∃ x, a = some x ∧ len ≤ cap ∧ cap ≤ 140737488351232 ∧ zs.length = cap ∧ (∀ i, i < zs.length → w.cell? (x.add i) = some (.int .u8 (zs.getD i 0))) ∧ ∀ n ∈ zs, (Lit.int .u8 n).wf = true) :
    ∃ f : Nat → Nat, Bt w a len cap f ∧ len ≤ 140737488351232 := by
  obtain ⟨f, h1, h2, h3⟩ := sl_of_row w a len cap zs h
  refine ⟨f, ⟨h1, ?_, h3⟩, h2⟩
  rcases h with ⟨_, rfl, rfl, _⟩ | ⟨x, _, hl, _⟩ <;> omega
theorem i64_of_wf8 {n : Int} (h : (Lit.int .i64 n).wf = true) : -9223372036854775808 ≤ n ∧ n ≤ 9223372036854775807 := by
  simp [Lit.wf, IntKind.min, IntKind.max, IntKind.signed, IntKind.bits] at h
  omega
theorem u8_of_wf8 {n : Int} (h : (Lit.int .u8 n).wf = true) : ∃ x : Nat, n = (x : Int) ∧ x < 256 := by
  simp [Lit.wf, IntKind.min, IntKind.max, IntKind.signed, IntKind.bits] at h
  exact ⟨n.toNat, by omega, by omega⟩
/-- Two lists that are the same. -/
theorem same8 (w : World) (a b : Option Addr) (n c d : Nat) (f g : Nat → Nat) (ha : Bt w a n c f) (hb : Bt w b n d g) (e : ∀ i, i < n → f i = g i) :
    Calls Try.prog 10 #[.slice a n c, .slice b n d] w fun e w' => e = .returned (.bool true) ∧ w = w' := by
  refine (same_exact w a b n n c d f g ha.sl hb.sl).mono (fun e' w' h => ?_)
  rw [show sameB n n f g = true from decide_eq_true ⟨rfl, e⟩] at h
  exact h
/-- The bytes of a literal. -/
def litf (l : List Nat) (i : Nat) : Nat := l.getD i 0
theorem bt_lit (w : World) (l : List Nat) (cs : Array Value) (mk : Nat × Nat) (hc : cs = (l.map fun x : Nat => Value.int .u8 (x : Int)).toArray) (h8 : ∀ x ∈ l, x < 256) : Bt (w.alloc (.cells cs 5 mk)) (some ⟨w.heap.size, 0, none⟩) l.length l.length (litf l) := by
  subst hc
  have h : (w.alloc (.cells (l.map fun x : Nat => Value.int .u8 (x : Int)).toArray 5 mk)).heap[w.heap.size]? = some (.cells (l.map fun x : Nat => Value.int .u8 (x : Int)).toArray 5 mk) := Array.getElem?_push_size
  refine ⟨⟨fun i hi => ?_, fun i hi => ⟨w.heap.size, 0, rfl, ?_⟩⟩, Nat.le_refl _, fun e => by cases e⟩
  · unfold litf
    rw [List.getD_eq_getElem?_getD, List.getElem?_eq_getElem hi]
    exact h8 _ (List.getElem_mem hi)
  · rw [Nat.zero_add, cell_of_row _ _ i _ _ _ h]
    unfold litf
    simp [hi]
theorem nf300 : NF 300 2 := ⟨by decide, by decide, fun _ => by decide⟩
theorem sum9 : cs (litf [49, 50, 51, 52, 53, 54, 55, 56, 57]) 9 = 3421780262 := by decide +kernel
set_option maxRecDepth 20000 in
set_option maxHeartbeats 1000000 in
theorem anch8_any (w : World) : Calls Try.prog 13 #[] w fun e w' => e = .returned (.bool true) ∧ Below w.heap.size w w' := by
  have HN : Hid (∀ w' : World, Calls Try.prog 9 #[.int .i64 300] w' fun e w'' => LsP w' w'' e 2 (nby 300) 0) := fun w' => wnum_ok w' 300 2 (by decide) nf300
  have HSa : Hid (∀ (w' : World) (s : Option Addr) (d : Nat), Bt w' s 2 d (nby 300) → Calls Try.prog 10 #[.slice s 2 d, .slice (some ⟨w'.heap.size, 0, none⟩) 2 2] (w'.alloc (.cells #[.int .u8 172, .int .u8 2] 5)) fun e w'' => e = .returned (.bool true) ∧ w'.alloc (.cells #[.int .u8 172, .int .u8 2] 5) = w'') := fun w' s d h =>
    same8 _ s _ 2 d 2 _ (litf [172, 2]) (h.later (jlow _ _)) (bt_lit w' [172, 2] _ (0, 0) rfl (by decide)) (by decide)
  have HSu : Hid (∀ w' : World, Calls Try.prog 16 #[.slice (some ⟨w'.heap.size + 1, 0, none⟩) 9 9] ((w'.alloc (.cells #[.int .u8 172, .int .u8 2] 5)).alloc (.cells #[.int .u8 49, .int .u8 50, .int .u8 51, .int .u8 52, .int .u8 53, .int .u8 54, .int .u8 55, .int .u8 56, .int .u8 57] 5 (9, 10))) fun e w'' => e = .returned (.int .u32 3421780262) ∧ Below w'.heap.size w' w'') := fun w' => by
    have h := wsum _ _ 9 9 _ (bt_lit (w'.alloc (.cells #[.int .u8 172, .int .u8 2] 5)) [49, 50, 51, 52, 53, 54, 55, 56, 57] #[.int .u8 49, .int .u8 50, .int .u8 51, .int .u8 52, .int .u8 53, .int .u8 54, .int .u8 55, .int .u8 56, .int .u8 57] (9, 10) rfl (by decide)) (by decide)
    rw [size_alloc8] at h
    refine h.mono (fun e w'' h => ?_)
    rw [sum9] at h
    exact ⟨h.1, jtwo (jtwo (jlow _ _) (jlow _ _)) h.2⟩
  have hcv : ∀ w' : World, Sem.run Try.prog (convert 22 22 (.slice (some ⟨w'.heap.size + 1, 0, none⟩) 9 9)) ((w'.alloc (.cells #[.int .u8 172, .int .u8 2] 5)).alloc (.cells #[.int .u8 49, .int .u8 50, .int .u8 51, .int .u8 52, .int .u8 53, .int .u8 54, .int .u8 55, .int .u8 56, .int .u8 57] 5)) = .ok (.slice (some ⟨w'.heap.size + 1, 0, none⟩) 9 9) ((w'.alloc (.cells #[.int .u8 172, .int .u8 2] 5)).alloc (.cells #[.int .u8 49, .int .u8 50, .int .u8 51, .int .u8 52, .int .u8 53, .int .u8 54, .int .u8 55, .int .u8 56, .int .u8 57] 5 (9, 10))) := fun w' => by
    have h := Go.Lib.run_convert_bytes_const (P := Try.prog) (w'.alloc (.cells #[.int .u8 172, .int .u8 2] 5)) 22 5 #[.int .u8 49, .int .u8 50, .int .u8 51, .int .u8 52, .int .u8 53, .int .u8 54, .int .u8 55, .int .u8 56, .int .u8 57] 9 9 Try.underlying22 Try.underlying5
    rw [size_alloc8] at h
    exact h
  go_enter Try.func13, Try.ntmps13
  go_wp2_with (first
    | (go_at_call 9; refine (HN.out _).mono ?_; rintro e w1 ⟨s, d, rfl, h1, h2⟩; have H1 := jhid8 h1; have H2 := jhid8 h2; clear h1 h2)
    | (go_at_call 10; refine (HSa.out _ s d H1.out).mono ?_; rintro e w' ⟨rfl, rfl⟩)
    | (go_at_call 16; refine (HSu.out _).mono ?_; rintro e w3 ⟨rfl, h3⟩; have H3 := jhid8 h3; clear h3))
  go_ret
  exact ⟨rfl, jtwo H2.out H3.out⟩
end Go.Proofs.Ytlfmekjkgegclab
