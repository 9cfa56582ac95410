/-
  The program's wire, as WireFresh uses it.
-/
import Derived.Test.YtlfmekjkgegclabHw
namespace Go.Proofs.Ytlfmekjkgegclab
open Go.RowKit
/-- A block that is in the second world and not in the first. -/
def Nw (w w' : World) (g : Nat) : Prop := w.heap.size ≤ g ∧ g < w'.heap.size
theorem fd_jo {w w1 : World} {s : Option Addr} {n d : Nat} {f : Nat → Nat} (h : Jo w1 w.heap.size 5 .u8 (.slice s n d) n f) (hf : ∀ i, i < n → f i < 256) (hn : n ≤ 100000000000) : Fd w1 (Nw w w1) s n d := by
  obtain ⟨s', d', e, hbt⟩ := h.bt hf
  cases e
  exact fd_of hbt hn h.fr8
theorem wtext_w (w : World) (a : Option Addr) (n c : Nat) (f : Nat → Nat) (ha : Bt w a n c f) (hn : n ≤ 1048576) :
    Calls Try.prog 18 #[.slice a n c] w fun e w' => ∃ s m d E, e = .returned (.tuple #[.slice s m d, .int .i64 E]) ∧ Fd w' (Nw w w') s m d ∧ Below w.heap.size w w' :=
  by
  obtain ⟨L, hL⟩ := nf_ex n
  have hL9 := nf_nine hL (by omega)
  exact (qtext_ok w a n c L f ha.sl ha.nil (by omega) hL).mono (fun e w' h => by
    obtain ⟨v, he, ho, hb⟩ := h
    obtain ⟨s, d, rfl, hbt⟩ := ho.bt (txf_lt ha.sl.1)
    exact ⟨s, _, d, 0, he, fd_jo ho (txf_lt ha.sl.1) (by omega), hb⟩)
theorem wrt_w (w : World) (a : Option Addr) (n c : Nat) (f : Nat → Nat) (ha : Bt w a n c f) (hn : n ≤ 1048576) :
    Calls Try.prog 19 #[.slice a n c, .int .i64 100] w fun e w' => ∃ s m d q E, e = .returned (.tuple #[.slice s m d, .int .i64 q, .int .i64 E]) ∧ Fd w' (Nw w w') s m d ∧ Below w.heap.size w w' :=
  by
  rcases rt_ex f n 100 (by decide) with ⟨v, s, h1, h2, h3⟩ | ⟨E, h⟩
  · refine (qrt_ok w a n c v s 100 f ha.sl ha.room (by omega) (by decide) h1 (by omega) h3).mono (fun e w' h => ?_)
    obtain ⟨x, he, ho, hb⟩ := h
    have hlt : ∀ i, i < v → (fun j => f (s + j)) i < 256 := fun i hi => ha.sl.1 _ (by omega)
    obtain ⟨s', d, rfl, hbt⟩ := ho.bt hlt
    exact ⟨s', _, d, _, _, he, fd_jo ho hlt (by omega), hb⟩
  · exact (qrt_bad w a n c E 100 f ha.sl ha.room (by omega) (by decide) h).mono (fun e w' h => ⟨none, 0, 0, 0, _, h.1, Fd.none _ _, by rw [← h.2]; exact Below.refl _ _⟩)
theorem wrd_w (w : World) (a : Option Addr) (n c : Nat) (f : Nat → Nat) (ha : Bt w a n c f) (hn : n ≤ 1048576) :
    Calls Try.prog 11 #[.slice a n c] w fun e w' => ∃ (t : Int) (s : Option Addr) (m d : Nat) (q E : Int), e = .returned (.tuple #[.agg #[.int .u8 t, .slice s m d], .int .i64 q, .int .i64 E]) ∧ Fd w' (Nw w w') s m d ∧ Below w.heap.size w w' :=
  by
  rcases rd_ex f n with ⟨v, s, h⟩ | ⟨E, h⟩
  · have h1 := h.fits
    refine (qrd_ok w a n c v s f ha.sl ha.room (by omega) h).mono (fun e w' h' => ?_)
    obtain ⟨x, he, ho, hb⟩ := h'
    have hlt : ∀ i, i < v → (fun j => f (1 + (s + j))) i < 256 := fun i hi => ha.sl.1 _ (by omega)
    obtain ⟨s', d, rfl, hbt⟩ := ho.bt hlt
    exact ⟨_, s', _, d, _, _, he, fd_jo ho hlt (by omega), hb⟩
  · refine (qrd_bad w a n c E f ha.sl ha.room (by omega) h h.small).mono (fun e w' h' => ?_)
    obtain ⟨x, he, ho, hb⟩ := h'
    have hlt : ∀ i, i < 0 → (fun _ => 0) i < 256 := fun i hi => by omega
    obtain ⟨s', d, rfl, hbt⟩ := ho.bt hlt
    exact ⟨_, s', _, d, _, _, he, fd_jo ho hlt (by omega), hb⟩
theorem Cls.cf {w w1 : World} {k d : Nat} {s : Option Addr} {tag m : Nat → Nat} {F : Nat → Nat → Nat} {S : Nat → Value} (h : Cls w1 w.heap.size (.slice s k d) k tag m F S) (hF : ∀ i, i < k → ∀ j, j < m i → F i j < 256) (hm : ∀ i, i < k → m i ≤ 100000000000) (hk : k ≤ 100000000000) : Cf w1 (Nw w w1) s k := ⟨hk, fun i hi => by
  obtain ⟨sx, dx, e, hbt⟩ := (h.body i hi).bt (hF i hi)
  have hbd := h.body i hi
  have hne := own_ne8 (by decide) hbd h.own
  rcases h.own.2 with ⟨_, h0⟩ | ⟨g, cap, cur, e2, hB, hg, _⟩
  · omega
  · cases e2
    obtain ⟨c1, c2⟩ := crow_get tag S k i hi
    have hcell : w1.cell? ⟨g, 0 + i * 2 + 1, none⟩ = some (.slice sx (m i) dx) := by
      rw [Nat.zero_add, World.ownsRow.cellAt h.own (i * 2 + 1) (by omega), c2, e]
    refine ⟨g, 0, sx, m i, dx, rfl, ⟨hB, jcell_lt hcell⟩, hcell, ?_⟩
    rw [e] at hbd hne
    have hfd := fd_jo hbd (hF i hi) (hm i hi)
    refine ⟨hfd.room, hfd.big, hfd.nil, fun x hx => ?_⟩
    obtain ⟨g', o, ex, h1, h2⟩ := hfd.own x hx
    refine ⟨g', o, ex, fun hd => ⟨h1 hd, fun e3 => ?_⟩, h2⟩
    subst e3
    rw [hx, ex] at hne
    rcases hne with h0 | h0
    · simp [Value.ownBlock] at h0
    · exact h0 rfl⟩
theorem wall_w (w : World) (a : Option Addr) (n c : Nat) (f : Nat → Nat) (ha : Bt w a n c f) (hn : n ≤ 1048576) :
    Calls Try.prog 14 #[.slice a n c] w fun e w' => ∃ (x : Option Addr) (k d : Nat) (q E : Int), e = .returned (.tuple #[.slice x k d, .int .i64 q, .int .i64 E]) ∧ Cf w' (Nw w w') x k ∧ Below w.heap.size w w' :=
  by
  obtain ⟨k, pos, v, s, E, h⟩ := all_ex f n
  have hE : E ≤ 80 := by rcases h.2.2 with ⟨rfl, _⟩ | ⟨_, h⟩; decide; exact h.small
  refine (qall_any w a n c k E f pos v s ha.sl ha.room (by omega) h hE).mono (fun e w' h' => ?_)
  obtain ⟨x, he, h1, h2, hb⟩ := h'
  by_cases hE : E = 0
  · obtain ⟨S, hc⟩ := h1 hE
    obtain ⟨sx, dx, rfl, _⟩ := hc.form
    have h6 := h.1.le k (Nat.le_refl _)
    exact ⟨sx, k, dx, _, _, he, hc.cf (bdf_lt ha.sl.1 h.1) (fun i hi => by have := (h.1.2 i hi).1.small; omega) (by omega), hb⟩
  · have := h2 hE
    subst this
    exact ⟨none, 0, 0, _, _, he, ⟨by omega, fun i hi => by omega⟩, hb⟩
end Go.Proofs.Ytlfmekjkgegclab
