/-
  Stage 21: Blocks; both sides' Run as one.
  Stage 21: the law of Runs.
-/
import Derived.Test.YtkfnedpnkeacpaaQffsh00
import Derived.Test.YtkfnedpnkeacpaaQffsh36
import Derived.Test.YtkfnedpnkeacpaaQffsh23
set_option maxRecDepth 100000
set_option maxHeartbeats 16000000
namespace Go.Proofs.Ytkfnedpnkeacpaa
open Go.RowKit
theorem qcz (w : World) (a b : Option Addr) (n ca cb : Nat) (A A' : Nat → Option Addr) (L C C' : Nat → Nat) (x : Nat → Nat → Nat) (ha : Rl w a n A L C x) (hb : Rl w b n A' L C' x) (hn : n ≤ 140737488351232) :
  Calls Try.prog 17 #[.slice a n ca, .slice b n cb] w fun e w' => e = .returned (.bool true) ∧ Below w.heap.size w w' := by
 have HA := qa0 ha
 have HB := qa0 hb
 clear ha hb
 go_enter Try.func17, Try.ntmps17
 go_wp2
 go_loopw [5] (fun vi wr => ∃ i : Nat, i ≤ n ∧ vi = .int .i64 (i : Int) ∧ Below w.heap.size w wr) (fun vi _ => n - (intOf vi).toNat)
 case atStart => exact ⟨0, by omega, rfl, Below.refl _ _⟩
 case round =>
  obtain ⟨i, hi, rfl, hb⟩ := hrel
  have HBl := qa0 hb
  by_cases hlt : i < n
  ·obtain ⟨xa, oa, rfl, c1⟩ := (HA.out.later hb).at' i hlt
   obtain ⟨xb, ob, rfl, c2⟩ := (HB.out.later hb).at' i hlt
   have s1 := (HA.out.later hb).sl i hlt
   have s2 := (HB.out.later hb).sl i hlt
   obtain ⟨u, HU⟩ : ∃ u, Hid (A i = u) := ⟨_, rfl⟩
   obtain ⟨v, HV⟩ : ∃ u, Hid (A' i = u) := ⟨_, rfl⟩
   obtain ⟨l, HL⟩ : ∃ u, Hid (L i = u) := ⟨_, rfl⟩
   obtain ⟨k, HK⟩ : ∃ u, Hid (C i = u) := ⟨_, rfl⟩
   obtain ⟨k', HK'⟩ : ∃ u, Hid (C' i = u) := ⟨_, rfl⟩
   rw [HU.out, HL.out, HK.out] at c1
   rw [HV.out, HL.out, HK'.out] at c2
   rw [HU.out, HL.out] at s1
   rw [HV.out, HL.out] at s2
   have HC := qa0 (fun w2 (hb2 : Below wr.heap.size wr w2) => qex w2 u v l k k' (x i) (s1.later hb2) (s2.later hb2))
   have p0 : (0 : Int) ≤ (i : Int) := by omega
   have p1 : (i : Int) < (n : Int) := by omega
   have hdr : Below wr.heap.size wr wr.drew := (Below.refl _ _).drew
   have HD : Hid ((fun w' : World => w'.cell? ⟨xa, oa + i, none⟩ = some (.slice u l k) ∧ w'.cell? ⟨xb, ob + i, none⟩ = some (.slice v l k')) wr.drew) := ⟨c1, c2⟩
   have HBD := qa0 (jtwo HBl.out hdr)
   have HDr := qa0 hdr
   clear s1 s2 hb hdr
   go_wp2
   go_region_held3 (fun w' => w'.cell? ⟨xa, oa + i, none⟩ = some (.slice u l k) ∧ w'.cell? ⟨xb, ob + i, none⟩ = some (.slice v l k'))
    (first
     | exact HD.out)
    (first
     | (go_at_call 28; refine (HC.out _ HDr.out).mono ?_; rintro e w2 ⟨rfl, rfl⟩))
   go_wp2
   exact ⟨⟨i + 1, by omega, by go_num, HBD.out⟩, by simp [intOf]; omega⟩
  ·obtain rfl : i = n := by omega
   go_wp2
   go_ret
   exact ⟨rfl, HBl.out⟩
/-- Blocks are answered, all of T bytes, and E. -/
def BkT (w : World) (K T : Nat) (x : Nat → Nat → Nat) (E : Int) (e : Ending) : Prop := ∃ a d A C, e = .returned (.tuple #[.slice a K d, .int .i64 E]) ∧ Rl w a K A (fun _ => T) C x
theorem Rl.zero (w : World) (a : Option Addr) (A : Nat → Option Addr) (L C : Nat → Nat) (x : Nat → Nat → Nat) : Rl w a 0 A L C x := ⟨fun i h => by omega, fun i h => by omega, fun i h => by omega⟩
theorem Ou.rl {w : World} {base g n T : Nat} {B : Nat → Nat} {x : Nat → Nat → Nat} (h : Ou w base g n n T B x) (hx : ∀ o i, o < n → i < T → x o i < 256) : Rl w (some ⟨g, 0, none⟩) n (fun o => some ⟨B o, 0, none⟩) (fun _ => T) (fun _ => T) x :=
 ⟨fun o ho => ⟨g, 0, rfl, by rw [Nat.zero_add, h.ga.cell o ho, if_pos ho]⟩, fun o ho => (h.row o ho).sl fun i hi => hx o i ho hi, fun o ho e => by cases e⟩
theorem run_lt {w : World} {a b c bl : Option Addr} {nb : Nat} {F : Fl} {A : Nat → Option Addr} {L C : Nat → Nat} {bt : Nat → Nat → Nat} (h : FlR w a b c F) (hM : MayP F) (hB : Bw w bl nb A L C bt) (hR : RunP F nb L) {v j : Nat} (hv : v < F.ni + F.nn) (hj : j < len1 nb L) : vlx F bt v j < 256 :=
 vlx_lt hM (fun v j h1 h2 h3 => h.fc8 h1 h2 h3) (fun u hu => by
  have h1 := hR.1 u hu
  have h2 := (hM.inp u hu).1
  exact (hB.rl.sl (F.inp u).toNat (by omega)).1 j (by rw [hR.2.one _ (by omega)]; exact hj)) hv
/-- What Run answers: how many blocks, of what length, which, and the error. -/
structure RuR (F : Fl) (nb : Nat) (L : Nat → Nat) (bt : Nat → Nat → Nat) (K T : Nat) (x : Nat → Nat → Nat) (E : Int) : Prop where
 ok : MayP F → RunP F nb L → K = F.no ∧ T = len1 nb L ∧ E = 0 ∧ (∀ o, x o = vlx F bt (F.out o).toNat) ∧ ∀ o i, o < K → i < T → x o i < 256
 no : ¬ MayP F → K = 0 ∧ E = 2
 sh : MayP F → ¬ RunP F nb L → K = 0 ∧ E = 3
theorem qcf (w0 : World) (a b c bl : Option Addr) (p q r nb kb : Nat) (F : Fl) (A : Nat → Option Addr) (L C : Nat → Nat) (bt : Nat → Nat → Nat) (h : FlR w0 a b c F) (hB : Bw w0 bl nb A L C bt) (hnb : nb ≤ 140737488351232) :
  ∃ (K T : Nat) (x : Nat → Nat → Nat) (E : Int), RuR F nb L bt K T x E ∧ ∀ w, Below w0.heap.size w0 w →
   (Calls Try.prog 15 #[flv a F.ni p b F.nn q c F.no r, .slice bl nb kb] w fun e w' => BkT w' K T x E e ∧ Below w.heap.size w w') ∧
   (Calls Try.prog 16 #[flv a F.ni p b F.nn q c F.no r, .slice bl nb kb] w fun e w' => BkT w' K T x E e ∧ Below w.heap.size w w') := by
 by_cases hM : MayP F
 ·by_cases hR : RunP F nb L
  ·have hlt : ∀ o i, o < F.no → i < len1 nb L → vlx F bt (F.out o).toNat i < 256 := fun o i ho hi => run_lt h hM hB hR (by have := hM.outs o ho; omega) hi
   refine ⟨F.no, len1 nb L, fun o => vlx F bt (F.out o).toNat, 0, ⟨fun _ _ => ⟨rfl, rfl, rfl, fun _ => rfl, hlt⟩, fun hn => absurd hM hn, fun _ hn => absurd hR hn⟩, fun w hb => ⟨?_, ?_⟩⟩
   ·refine (qbj w a b c bl p q r nb kb F A L C bt (h.later hb) hM (hB.later hb) hnb).mono ?_
    rintro e w' ⟨⟨_, g, B, rfl, _, ho⟩ | ⟨hn, _⟩, hb'⟩
    ·exact ⟨⟨_, _, _, _, rfl, ho.rl hlt⟩, hb'⟩
    ·exact absurd hR hn
   ·refine (qce w a b c bl p q r nb kb F A L C bt (h.later hb) hM (hB.later hb) hnb).mono ?_
    rintro e w' ⟨⟨_, v, rfl, ho⟩ | ⟨hn, _⟩, hb'⟩
    ·obtain ⟨s, d, rfl, _⟩ := ho.form
     obtain ⟨A', C', hr⟩ := ho.bw hlt
     exact ⟨⟨_, _, _, _, rfl, hr⟩, hb'⟩
    ·exact absurd hR hn
  ·refine ⟨0, 0, fun _ _ => 0, 3, ⟨fun _ hr => absurd hr hR, fun hn => absurd hM hn, fun _ _ => ⟨rfl, rfl⟩⟩, fun w hb => ⟨?_, ?_⟩⟩
   ·refine (qbj w a b c bl p q r nb kb F A L C bt (h.later hb) hM (hB.later hb) hnb).mono ?_
    rintro e w' ⟨⟨hr, _⟩ | ⟨_, rfl⟩, hb'⟩
    ·exact absurd hr hR
    ·exact ⟨⟨_, _, fun _ => none, fun _ => 0, rfl, Rl.zero _ _ _ _ _ _⟩, hb'⟩
   ·refine (qce w a b c bl p q r nb kb F A L C bt (h.later hb) hM (hB.later hb) hnb).mono ?_
    rintro e w' ⟨⟨hr, _⟩ | ⟨_, rfl⟩, hb'⟩
    ·exact absurd hr hR
    ·exact ⟨⟨_, _, fun _ => none, fun _ => 0, rfl, Rl.zero _ _ _ _ _ _⟩, hb'⟩
 ·refine ⟨0, 0, fun _ _ => 0, 2, ⟨fun hm => absurd hm hM, fun _ => ⟨rfl, rfl⟩, fun hm => absurd hm hM⟩, fun w hb => ⟨?_, ?_⟩⟩
  ·refine (qcy w a b c bl p q r nb kb F (h.later hb) hM).mono ?_
   rintro e w' ⟨rfl, hb'⟩
   exact ⟨⟨_, _, fun _ => none, fun _ => 0, rfl, Rl.zero _ _ _ _ _ _⟩, hb'⟩
  ·refine (qfh w a b c bl p q r nb kb F (h.later hb) hM).mono ?_
   rintro e w' ⟨rfl, hb'⟩
   exact ⟨⟨_, _, fun _ => none, fun _ => 0, rfl, Rl.zero _ _ _ _ _ _⟩, hb'⟩
end Go.Proofs.Ytkfnedpnkeacpaa
