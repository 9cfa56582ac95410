/-
  Memory that may be written (TokenFresh).
-/
import Derived.Test.YtipjejkjoiifdabDoorAj
namespace Go.Proofs.YtipjejkjoiifdabDoor
open Go.RowKit
theorem grown_trans9 {a b c : World} {row : Option Nat} (h : a.grownBy b row) (k : b.grownBy c row) : a.grownBy c row :=
  ⟨k.os.trans h.os, k.tape.trans h.tape, k.output.trans h.output, Nat.le_trans h.size k.size, fun i hi hn => (k.block i (Nat.lt_of_lt_of_le hi h.size) hn).trans (h.block i hi hn)⟩
theorem grown_set9 (w : World) (g i : Nat) (v : Value) : w.grownBy (w.setCell ⟨g, i, none⟩ v) (some g) :=
  ⟨rfl, rfl, rfl, by simp, fun k _ hk => Below.heap_setCell w ⟨g, i, none⟩ v k (by intro e; apply hk; simpa using e)⟩
/-- A block with room for n cells, which may be written. -/
def Rm (w : World) (b n : Nat) : Prop := ∃ xs T, Vn w b T xs ∧ n ≤ xs.size
theorem Rm.later {w w' : World} {b n : Nat} (h : Rm w b n) (hb : Below w.heap.size w w') : Rm w' b n := by
  obtain ⟨xs, T, hv, hn⟩ := h
  exact ⟨xs, T, hv.later hb, hn⟩
theorem Rm.lt {w : World} {b n : Nat} (h : Rm w b n) : b < w.heap.size := by
  obtain ⟨xs, T, hv, hn⟩ := h
  exact hv.lt
theorem Rm.kept {w w' : World} {b c n : Nat} (h : Rm w b n) (hg : w.grownBy w' (some c)) (hne : b ≠ c) : Rm w' b n := by
  obtain ⟨xs, T, hv, hn⟩ := h
  exact ⟨xs, T, by unfold Vn; rw [hg.block b hv.lt (by simpa using fun e => hne e)]; exact hv, hn⟩
theorem Rm.there {w : World} {b n o k : Nat} (h : Rm w b n) (hk : o + k ≤ n) : w.there b o k := by
  obtain ⟨xs, T, hv, hn⟩ := h
  intro j hj
  exact ⟨by rw [hv.cell (o + j) xs[o + j] (by simp [show o + j < xs.size by omega])]; rfl, hv.free _⟩
theorem Rm.cells {w : World} {b n : Nat} : ∀ (l : List Value) (o : Nat), Rm w b n → Rm (w.setCells b o l) b n ∧ w.grownBy (w.setCells b o l) (some b) := by
  intro l
  induction l generalizing w with
  | nil => intro o h; exact ⟨h, World.grownBy.refl _ _⟩
  | cons v l ih =>
    intro o h
    obtain ⟨xs, T, hv, hn⟩ := h
    have h2 := ih (w := w.setCell ⟨b, o, none⟩ v) (o + 1) ⟨_, T, hv.set o v, by simpa using hn⟩
    refine ⟨h2.1, grown_trans9 ?_ h2.2⟩
    exact grown_set9 _ _ _ _
theorem wpList_store_rm {ops : Array Oper} {rest : List Oper} {op : Oper} {a : Act} {w : World} {Q : Exit → Act → World → Prop} (hgd : op.guard = none) (T : TypeId) (p q : Operand) (ho : op.op = .store T p q)
    (b o n : Nat) (ys : Array Value) (hp : a.eval p = .pointer (some ⟨b, o, none⟩)) (hq : a.eval q = .agg ys) (hR : Rm w b n) (hn : o + ys.size ≤ n) (hi : (Tryd.prog.info? T).map (·.size) = some ys.size) (h1 : ys.all (·.oneCell') = true)
    (h : ∀ w', Hid (Rm w' b n) → Hid (w.grownBy w' (some b)) → wpList Tryd.prog ops Q rest (a.put op.dst undef) w') : wpList Tryd.prog ops Q (op :: rest) a w :=
  wpList_store_mid hgd T p q ho b o ys hp hq (hR.there hn) hi h1 (h _ (Rm.cells _ _ hR).1 (Rm.cells _ _ hR).2)
theorem wpList_store_rm1 {ops : Array Oper} {rest : List Oper} {op : Oper} {a : Act} {w : World} {Q : Exit → Act → World → Prop} (hgd : op.guard = none) (T : TypeId) (p q : Operand) (ho : op.op = .store T p q)
    (b o n : Nat) (v : Value) (hp : a.eval p = .pointer (some ⟨b, o, none⟩)) (hq : a.eval q = v) (hR : Rm w b n) (hn : o < n) (hi : (Tryd.prog.info? T).map (·.size) = some 1) (hv : v.cells = #[v]) (h1 : v.oneCell' = true)
    (h : ∀ w', Hid (Rm w' b n) → Hid (w.grownBy w' (some b)) → wpList Tryd.prog ops Q rest (a.put op.dst undef) w') : wpList Tryd.prog ops Q (op :: rest) a w := by
  obtain ⟨xs, U, hV, hs⟩ := hR
  exact wpList_store_one hgd T p q ho b o U xs v hp hq hi hv h1 hV (by omega) (fun w' h1 h2 => h w' ⟨_, U, h1, by simpa using hs⟩ h2)
theorem Tls.rm {w : World} {B : Nat} {s : ByteArray} {L : List Tk} {x : Option Addr} {d : Nat} (h : Tls w B (.slice x L.length d) s L) (h0 : 0 < L.length) : ∃ g, x = some ⟨g, 0, none⟩ ∧ B ≤ g ∧ Rm w g (L.length * 5) := by
  rcases h.2 with ⟨_, h'⟩ | ⟨g, cap, cur, e, hB, hg, hc, _, hs, ht⟩
  · omega
  · cases e
    refine ⟨g, rfl, hB, cur, _, hg, ?_⟩
    have := congrArg List.length ht
    rw [trow_len, List.length_take] at this
    simp at this
    omega
theorem StAt.rm {w : World} {b : Nat} {t : TypeId} {l : List ByteArray} (h : StAt w b t l) : Rm w b l.length := by
  obtain ⟨cur, h, e⟩ := h
  refine ⟨cur, t, h, ?_⟩
  have := congrArg List.length e
  rw [List.length_take, List.length_map] at this
  simp at this
  omega
end Go.Proofs.YtipjejkjoiifdabDoor
