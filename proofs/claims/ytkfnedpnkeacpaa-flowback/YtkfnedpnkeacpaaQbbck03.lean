/-
  Lists of bytes in memory: what a slice reads as, and what stays; no call yet.
-/
import Derived.Test.YtkfnedpnkeacpaaQbbck00
import Derived.Test.YtkfnedpnkeacpaaQbbck02
import Derived.OwnWalk
import Derived.Laws.BytesArg
import Derived.Laws.IdiomStrings
set_option maxRecDepth 100000
set_option maxHeartbeats 16000000
namespace Go.Proofs.Ytkfnedpnkeacpaa
open Go.RowKit
/-- A slice at the address a reads as the n bytes f 0, f 1, .. -/
def Sl (w : World) (a : Option Addr) (n : Nat) (f : Nat → Nat) : Prop :=
 (∀ i, i < n → f i < 256) ∧ ∀ i, i < n → ∃ b o, a = some ⟨b, o, none⟩ ∧ w.cell? ⟨b, o + i, none⟩ = some (.int .u8 (f i : Nat))
/-- It lies in blocks from B on. -/
def From (B : Nat) (a : Option Addr) : Prop := ∀ x, a = some x → B ≤ x.block
/-- It lies in another block than g. -/
def Off (g : Nat) (a : Option Addr) : Prop := ∀ x, a = some x → x.block ≠ g
theorem qa4 {w : World} {b o : Nat} {v : Value} (h : w.cell? ⟨b, o, none⟩ = some v) : b < w.heap.size := by
 by_cases hb : b < w.heap.size
 ·exact hb
 ·simp [World.cell?, hb] at h
theorem Sl.later {w w' : World} {a : Option Addr} {n : Nat} {f : Nat → Nat} (h : Sl w a n f) (hb : Below w.heap.size w w') : Sl w' a n f :=
 ⟨h.1, fun i hi => by
  obtain ⟨b, o, e, hc⟩ := h.2 i hi
  exact ⟨b, o, e, by rw [hb.cell (p := ⟨b, o + i, none⟩) (qa4 hc)]; exact hc⟩⟩
theorem Sl.kept {w w' : World} {a : Option Addr} {n : Nat} {f : Nat → Nat} {g : Nat} (h : Sl w a n f) (hg : w.grownBy w' (some g)) (ho : Off g a) : Sl w' a n f :=
 ⟨h.1, fun i hi => by
  obtain ⟨b, o, e, hc⟩ := h.2 i hi
  refine ⟨b, o, e, hg.cell hc ?_⟩
  intro hh
  exact ho _ e (by simpa using hh)⟩
theorem Sl.congr {w : World} {a : Option Addr} {n : Nat} {f f' : Nat → Nat} (h : Sl w a n f) (e : ∀ i, i < n → f i = f' i) : Sl w a n f' :=
 ⟨fun i hi => by rw [← e i hi]; exact h.1 i hi, fun i hi => by rw [← e i hi]; exact h.2 i hi⟩
theorem Sl.nil (w : World) (a : Option Addr) (f : Nat → Nat) : Sl w a 0 f := ⟨fun i hi => by omega, fun i hi => by omega⟩
theorem RowAt.sl {w : World} {g : Nat} {t : TypeId} {n : Nat} {f : Nat → Nat} (h : RowAt w g t n f) (hf : ∀ i, i < n → f i < 256) : Sl w (some ⟨g, 0, none⟩) n f :=
 ⟨hf, fun i hi => ⟨g, 0, rfl, by rw [Nat.zero_add]; exact h.cell i hi⟩⟩
theorem RowAt.lt {w : World} {g : Nat} {t : TypeId} {n : Nat} {f : Nat → Nat} (h : RowAt w g t n f) : g < w.heap.size := lt_of_block h
theorem RowAt.later {w w' : World} {g : Nat} {t : TypeId} {n : Nat} {f : Nat → Nat} (h : RowAt w g t n f) (hb : Below w.heap.size w w') : RowAt w' g t n f := by
 unfold RowAt; rw [hb.block g h.lt]; exact h
theorem RowAt.kept {w w' : World} {g k : Nat} {t : TypeId} {n : Nat} {f : Nat → Nat} (h : RowAt w g t n f) (hg : w.grownBy w' (some k)) (hk : g ≠ k) : RowAt w' g t n f := by
 unfold RowAt; rw [hg.block g h.lt (by simpa using hk)]; exact h
theorem qa5 {w w' : World} : w.grownBy w' none ↔ Below w.heap.size w w' :=
 ⟨fun h => ⟨h.os, h.tape, h.output, h.size, fun k hk => h.block k hk (by simp)⟩, fun h => ⟨h.os, h.tape, h.output, h.size, fun k hk _ => h.block k hk⟩⟩
theorem qaa {a b c : World} {row : Option Nat} (h : a.grownBy b row) (k : b.grownBy c row) : a.grownBy c row :=
 ⟨k.os.trans h.os, k.tape.trans h.tape, k.output.trans h.output, Nat.le_trans h.size k.size, fun i hi hn => (k.block i (Nat.lt_of_lt_of_le hi h.size) hn).trans (h.block i hi hn)⟩
theorem qa9 {a b : World} (h : Below a.heap.size a b) (row : Option Nat) : a.grownBy b row := ⟨h.os, h.tape, h.output, h.size, fun k hk _ => h.block k hk⟩
theorem qa1 (w : World) (g i : Nat) (v : Value) : w.grownBy (w.setCell ⟨g, i, none⟩ v) (some g) :=
 ⟨rfl, rfl, rfl, by simp, fun k _ hk => Below.heap_setCell w ⟨g, i, none⟩ v k (by intro e; apply hk; simpa using e)⟩
theorem qbd {w : World} {a : Option Addr} {n : Nat} {f : Nat → Nat} {g : Nat} (h : Sl w a n f) (hg : w.heap.size ≤ g) (hn : 0 < n) : Off g a := by
 intro x hx
 obtain ⟨b, o, e, hc⟩ := h.2 0 hn
 rw [e] at hx
 cases hx
 have := qa4 hc
 show b ≠ g
 omega
/-- A row of noughts as 'make' lays it. -/
theorem qd7 (n : Nat) : (madeCells #[Value.int .u8 0] n) = row n fun _ => 0 := by
 apply Array.toList_inj.mp
 rw [toList_madeCells_one]
 apply List.ext_getElem
 ·simp [row]
 ·intro i h1 h2; simp [row]
theorem qef {w : World} {base g n : Nat} {e : TypeId} {xs : List Value} {f : Nat → Nat} (h : w.ownsRow base e 1 (.slice (some ⟨g, 0, none⟩) n n) n xs) (hx : xs = (row n f).toList) : RowAt w g e n f := by
 rcases h.2 with ⟨h', _⟩ | ⟨g', cap', cur, h', _, hg, _, _, hs, htake⟩
 ·simp at h'
 ·simp only [Value.slice.injEq, Option.some.injEq, Addr.mk.injEq, and_true, true_and] at h'
  obtain ⟨rfl, rfl⟩ := h'
  unfold RowAt
  rw [hg]
  congr 2
  apply Array.toList_inj.mp
  rw [← hx, ← htake, List.take_of_length_le (by simp; omega)]
theorem sl_nums {w : World} {b o n : Nat} {f : Nat → Nat} (h : Sl w (some ⟨b, o, none⟩) n f) : ∀ i, i < n → w.cell? ⟨b, o + i, none⟩ = some (.int .u8 (((List.range n).map fun i => (f i : Int)).getD i 0)) := by
 intro i hi
 obtain ⟨b', o', e, hc⟩ := h.2 i hi
 cases e
 rw [hc]
 simp [hi]
/-- The string of n bytes. -/
def strOf (n : Nat) (f : Nat → Nat) : ByteArray := strOfNums ((List.range n).map fun i => (f i : Int))
theorem qdv (f : Nat → Nat) : strOf 0 f = ByteArray.empty := rfl
theorem qau {w : World} {a : Option Addr} {n c : Nat} {f : Nat → Nat} (h : Sl w a n f) :
  (convert 22 9 (.slice a n c)).run Try.prog w = .ok (.string (strOf n f)) w := by
 by_cases hn : n = 0
 ·subst hn
  rw [qdv]
  cases a with
  | none => exact run_convert_bytes_nil w _ _ Try.underlying22 Try.underlying5 _ _ _ Try.underlying9
  | some x => exact run_convert_bytes_back w _ _ _ x c [] Try.underlying22 Try.underlying5 Try.underlying9 (fun j hj => by simp at hj)
 ·obtain ⟨b, o, e, _⟩ := h.2 0 (by omega)
  subst e
  exact run_convert_bytes_arg w _ _ Try.underlying22 Try.underlying5 b o n c _ (by simp) (sl_nums h) _ Try.underlying9
theorem qeg (w : World) (a b : Option Addr) (n c d : Nat) (f : Nat → Nat) (ha : Sl w a n f) (hb : Sl w b n f) :
  Calls Try.prog 28 #[.slice a n c, .slice b n d] w fun e w' => e = .returned (.bool true) ∧ w' = w := by
 have h1 : (convert 22 9 (.slice a n c)).run Try.prog w = .ok (.string (strOf n f)) w := qau ha
 have h2 : (convert 22 9 (.slice b n d)).run Try.prog w = .ok (.string (strOf n f)) w := qau hb
 obtain ⟨s, hs⟩ : ∃ s, strOf n f = s := ⟨_, rfl⟩
 rw [hs] at h1 h2
 clear hs ha hb
 go_enter Try.func28, Try.ntmps28
 go_wp2
 go_ret
 exact ⟨rfl, rfl⟩
end Go.Proofs.Ytkfnedpnkeacpaa
