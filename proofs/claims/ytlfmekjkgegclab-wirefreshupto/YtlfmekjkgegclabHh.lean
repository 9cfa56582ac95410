/-
  Contracts of the wire's reference: Write.
-/
import Derived.Test.YtlfmekjkgegclabHg
namespace Go.Proofs.Ytlfmekjkgegclab
open Go.RowKit
/-- A variable of two cells: a chunk's. -/
def Vc (w : World) (b : Nat) (x y : Value) : Prop := w.heap[b]? = some (.cells #[x, y] 30 (0, 0))
theorem Vc.new (w : World) (x y : Value) : Vc (w.alloc (.cells #[x, y] 30)) w.heap.size x y := Array.getElem?_push_size
theorem Vc.lt {w : World} {b : Nat} {x y : Value} (h : Vc w b x y) : b < w.heap.size := lt_of_block h
theorem Vc.later {w w' : World} {b : Nat} {x y : Value} (h : Vc w b x y) (hb : Below w.heap.size w w') : Vc w' b x y := by unfold Vc; rw [hb.block b h.lt]; exact h
theorem Vc.c0 {w : World} {b : Nat} {x y : Value} (h : Vc w b x y) : w.cell? ⟨b, 0, none⟩ = some x := by rw [cell_of_row w b 0 _ _ _ h]; rfl
theorem Vc.c1 {w : World} {b : Nat} {x y : Value} (h : Vc w b x y) : w.cell? ⟨b, 1, none⟩ = some y := by rw [cell_of_row w b 1 _ _ _ h]; rfl
theorem jo_sl {w : World} {B n d : Nat} {s : Option Addr} {f : Nat → Nat} (h : Jo w B 5 .u8 (.slice s n d) n f) (hf : ∀ i, i < n → f i < 256) : Sl w s n f := by
  obtain ⟨a, c, e, hs, _⟩ := own_sl h hf
  cases e
  exact hs
theorem jo_lit1 (w : World) (B x : Nat) (hB : B ≤ w.heap.size) : Jo (w.alloc (.cells #[.int .u8 (x : Int)] 5)) B 5 .u8 (.slice (some ⟨w.heap.size, 0, none⟩) 1 1) 1 (fun _ => x) := by
  have h := World.ownsRow_lit (base := B) (e := 5) (size := 1) w #[.int .u8 (x : Int)] 1 hB (by unfold maxLen; omega) rfl
  unfold Jo
  have e : (jrow .u8 1 (fun _ => x)).toList = #[Value.int .u8 (x : Int)].toList := by simp [jrow, List.range_succ]
  rw [e]
  exact h
/-- What stands ahead of a chunk's sum. -/
def chp (tag : Nat) (f : Nat → Nat) (n L : Nat) : Nat → Nat := cat (fun _ => tag) (txf f n L) 1
/-- A chunk's form. -/
def chf (tag : Nat) (f : Nat → Nat) (n L : Nat) : Nat → Nat := cat (chp tag f n L) (fr (cs (chp tag f n L) (1 + (L + n)))) (1 + (L + n))
theorem chp_lt {tag n L : Nat} {f : Nat → Nat} (ht : tag < 256) (hf : ∀ i, i < n → f i < 256) : ∀ i, i < 1 + (L + n) → chp tag f n L i < 256 := cat_lt (fun _ _ => ht) (txf_lt hf)
theorem chf_lt {tag n L : Nat} {f : Nat → Nat} (ht : tag < 256) (hf : ∀ i, i < n → f i < 256) : ∀ i, i < 1 + (L + n) + 4 → chf tag f n L i < 256 := cat_lt (chp_lt ht hf) (fun i _ => fr_lt _ i)
set_option maxRecDepth 20000 in
set_option maxHeartbeats 2000000 in
theorem rwrite8_ok (w : World) (tag n c L : Nat) (a : Option Addr) (f : Nat → Nat) (ht : tag < 256) (ha : Sl w a n f) (h0 : a = none → n = 0 ∧ c = 0) (hn : n ≤ 4194304) (HN : Hid (NF n L)) :
    Calls Try.prog 21 #[.agg #[.int .u8 (tag : Int), .slice a n c]] w fun e w' => ∃ v, e = .returned (.tuple #[v, .int .i64 0]) ∧ Jo w' w.heap.size 5 .u8 v (1 + (L + n) + 4) (chf tag f n L) ∧ Below w.heap.size w w' := by
  have HA : Hid (∀ w' : World, Below w.heap.size w w' → Sl w' a n f) := fun w' hb => ha.later hb
  have H0 : Hid (a = none → n = 0 ∧ c = 0) := h0
  have HF : Hid (∀ i, i < n → f i < 256) := ha.1
  have hL9 := nf_nine HN.out (by omega)
  obtain ⟨m, HM⟩ : ∃ m, Hid (L + n = m) := ⟨_, rfl⟩
  obtain ⟨p, HP⟩ : ∃ p, Hid (1 + m = p) := ⟨_, rfl⟩
  have hm : m ≤ 4194313 := by have := HM.out; omega
  have hp : p ≤ 4194314 := by have := HP.out; omega
  obtain ⟨T, HT⟩ : ∃ T, Hid (txf f n L = T) := ⟨_, rfl⟩
  obtain ⟨C, HC⟩ : ∃ C, Hid (chp tag f n L = C) := ⟨_, rfl⟩
  have HTb : Hid (∀ i, i < m → T i < 256) := by rw [← HM.out, ← HT.out]; exact txf_lt HF.out
  have HCb : Hid (∀ i, i < p → C i < 256) := by rw [← HP.out, ← HM.out, ← HC.out]; exact chp_lt ht HF.out
  have HTx : Hid (∀ w' : World, Below w.heap.size w w' → Calls Try.prog 29 #[.slice a n c] w' fun e w'' => ∃ s d, e = .returned (.tuple #[.slice s m d, .int .i64 0]) ∧ Sl w'' s m T ∧ (s = none → m = 0 ∧ d = 0) ∧ Below w'.heap.size w' w'') := fun w' hb => (rtext8_ok w' a n c L f (ha.later hb) h0 hn HN).mono (fun e w'' h => by
    obtain ⟨v, he, ho, hb⟩ := h
    rw [HM.out, HT.out] at ho
    obtain ⟨s, d, rfl, hs⟩ := ho.form
    exact ⟨s, d, he, jo_sl ho HTb.out, hs, hb⟩)
  obtain ⟨S, HS⟩ : ∃ S, Hid (cs C p = S) := ⟨_, rfl⟩
  have HS4 : Hid (S < 4294967296) := by rw [← HS.out]; exact cs_lt C p
  clear ha h0 HA
  go_enter Try.func21, Try.ntmps21
  go_wp2_with (first
    | (go_at_call 29; refine (HTx.out _ (jlow _ _)).mono ?_; rintro e w1 ⟨s1, d1, rfl, hs1, hn1, hb1⟩; have va := (Vc.new w (.int .u8 (tag : Int)) (.slice a n c)).later hb1; have a0 := va.c0; have HB1 : Hid (Below w.heap.size w w1) := jtwo (jlow _ _) hb1; have HS1 : Hid (Sl w1 s1 m T) := hs1; have HN1 : Hid (s1 = none → m = 0 ∧ d1 = 0) := hn1; clear hs1 hn1 hb1 va)
    | (at_builtin; have _x := HB3; refine wpList_append_sl rfl _ _ rfl w.heap.size p (.slice s2 p d2) C rfl HO3.out s3 4 d3 (fr S) rfl HS3.out HN3.out (by omega) HB3.out.size ?_; intro v4 w4 ho4 _ hb4; have HO4 : Hid (Jo w4 w.heap.size 5 .u8 v4 (p + 4) (cat C (fr S) p)) := ho4; have HB4 : Hid (Below w.heap.size w w4) := HB3.out.trans hb4; clear ho4 hb4)
    | (at_builtin; refine wpList_append_sl rfl _ _ rfl w.heap.size 1 (.slice (some ⟨w1.heap.size, 0, none⟩) 1 1) (fun _ => tag) rfl (jo_lit1 w1 w.heap.size tag HB1.out.size) s1 m d1 T rfl (HS1.out.later (jlow _ _)) HN1.out (by omega) (Nat.le_trans HB1.out.size (jlow _ _).size) ?_; intro v2 w2 ho2 _ hb2; have HB2 : Hid (Below w.heap.size w w2) := (jtwo HB1.out (jlow _ _)).trans hb2; have ho2b : Jo w2 w.heap.size 5 .u8 v2 p C := (by have h := ho2; rw [HP.out, ← HT.out] at h; rw [← HC.out]; exact h); obtain ⟨s2, d2, e2, _⟩ := ho2b.form; subst e2; have HO2 : Hid (Jo w2 w.heap.size 5 .u8 (.slice s2 p d2) p C) := ho2b; have HS2 : Hid (Sl w2 s2 p C) := jo_sl ho2b HCb.out; clear ho2 ho2b hb2)
    | (go_at_call 31; refine (rsum8_ok _ s2 p d2 C HS2.out (by omega)).mono ?_; rintro e w' ⟨rfl, rfl⟩; rw [HS.out])
    | (go_at_call 30; refine (rfour8_ok _ S HS4.out).mono ?_; rintro e w3 ⟨v3, rfl, ho3, hb3⟩; obtain ⟨s3, d3, e3, hn3⟩ := ho3.form; subst e3; have HO3 : Hid (Jo w3 w.heap.size 5 .u8 (.slice s2 p d2) p C) := HO2.out.later hb3; have HS3 : Hid (Sl w3 s3 4 (fr S)) := jo_sl ho3 (fun i _ => fr_lt S i); have HN3 : Hid (s3 = none → 4 = 0 ∧ d3 = 0) := hn3; have HB3 : Hid (Below w.heap.size w w3) := jtwo HB2.out hb3; clear ho3 hn3 hb3))
  go_ret2
  refine ⟨_, rfl, ?_, HB4.out⟩
  have h := HO4.out
  unfold chf
  rw [HC.out, HM.out, HP.out, HS.out]
  exact h
set_option maxRecDepth 20000 in
set_option maxHeartbeats 400000 in
theorem rwrite8_limit (w : World) (tag n c : Nat) (a : Option Addr) (hn : 4194304 < n) : Calls Try.prog 21 #[.agg #[.int .u8 (tag : Int), .slice a n c]] w fun e w' => e = .returned (.tuple #[.slice none 0 0, .int .i64 4]) ∧ Below w.heap.size w w' := by
  go_enter Try.func21, Try.ntmps21
  go_wp2_with (go_at_call 29; refine (rtext8_limit _ a n c hn).mono ?_; rintro e w' ⟨rfl, rfl⟩)
  go_ret2
  exact ⟨rfl, jlow _ _⟩
end Go.Proofs.Ytlfmekjkgegclab
