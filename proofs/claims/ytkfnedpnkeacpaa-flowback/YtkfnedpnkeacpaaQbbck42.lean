/-
  Stage 21: Blocks; both sides' Run as one.
  Stage 21: the law of Runs.
-/
import Derived.Test.YtkfnedpnkeacpaaQbbck00
import Derived.Test.YtkfnedpnkeacpaaQbbck41
import Derived.Test.YtkfnedpnkeacpaaQbbck32
set_option maxRecDepth 100000
set_option maxHeartbeats 16000000
namespace Go.Proofs.Ytkfnedpnkeacpaa
open Go.RowKit
theorem qf3 (w : World) (a b : Option Addr) (n ca cb : Nat) (A A' : Nat → Option Addr) (L C C' : Nat → Nat) (x : Nat → Nat → Nat) (ha : Rl w a n A L C x) (hb : Rl w b n A' L C' x) (hn : n ≤ 140737488351232) :
  Calls Try.prog 17 #[.slice a n ca, .slice b n cb] w fun e w' => e = .returned (.bool true) ∧ Below w.heap.size w w' := by
 have HA := qa0 ha
 have HB := qa0 hb
 clear ha hb
 go_enter Try.func17, Try.ntmps17
 go_wp2
 go_loopw [5] (fun vi wr => ∃ i : Nat, i ≤ n ∧ vi = .int .i64 (i : Int) ∧ Below w.heap.size w wr) (fun vi _ => n - (intOf vi).toNat)
 case atStart => exact ⟨0, by omega, rfl, Below.refl _ _⟩
 case round =>
  obtain ⟨i, hi, rfl, hb⟩ := hrel
  have HBl := qa0 hb
  by_cases hlt : i < n
  ·obtain ⟨xa, oa, rfl, c1⟩ := (HA.out.later hb).at' i hlt
   obtain ⟨xb, ob, rfl, c2⟩ := (HB.out.later hb).at' i hlt
   have s1 := (HA.out.later hb).sl i hlt
   have s2 := (HB.out.later hb).sl i hlt
   obtain ⟨u, HU⟩ : ∃ u, Hid (A i = u) := ⟨_, rfl⟩
   obtain ⟨v, HV⟩ : ∃ u, Hid (A' i = u) := ⟨_, rfl⟩
   obtain ⟨l, HL⟩ : ∃ u, Hid (L i = u) := ⟨_, rfl⟩
   obtain ⟨k, HK⟩ : ∃ u, Hid (C i = u) := ⟨_, rfl⟩
   obtain ⟨k', HK'⟩ : ∃ u, Hid (C' i = u) := ⟨_, rfl⟩
   rw [HU.out, HL.out, HK.out] at c1
   rw [HV.out, HL.out, HK'.out] at c2
   rw [HU.out, HL.out] at s1
   rw [HV.out, HL.out] at s2
   have HC := qa0 (fun w2 (hb2 : Below wr.heap.size wr w2) => same_at w2 u v l k k' (x i) (s1.later hb2) (s2.later hb2))
   have p0 : (0 : Int) ≤ (i : Int) := by omega
   have p1 : (i : Int) < (n : Int) := by omega
   have hdr : Below wr.heap.size wr wr.drew := (Below.refl _ _).drew
   have HD : Hid ((fun w' : World => w'.cell? ⟨xa, oa + i, none⟩ = some (.slice u l k) ∧ w'.cell? ⟨xb, ob + i, none⟩ = some (.slice v l k')) wr.drew) := ⟨c1, c2⟩
   have HBD := qa0 (jtwo HBl.out hdr)
   have HDr := qa0 hdr
   clear s1 s2 hb hdr
   go_wp2
   go_region_held3 (fun w' => w'.cell? ⟨xa, oa + i, none⟩ = some (.slice u l k) ∧ w'.cell? ⟨xb, ob + i, none⟩ = some (.slice v l k'))
    (first
     | exact HD.out)
    (first
     | (go_at_call 28; refine (HC.out _ HDr.out).mono ?_; rintro e w2 ⟨rfl, rfl⟩))
   go_wp2
   exact ⟨⟨i + 1, by omega, by go_num, HBD.out⟩, by simp [intOf]; omega⟩
  ·obtain rfl : i = n := by omega
   go_wp2
   go_ret
   exact ⟨rfl, HBl.out⟩
/-- Blocks are answered, all of T bytes, and E. -/
def BkT (w : World) (K T : Nat) (x : Nat → Nat → Nat) (E : Int) (e : Ending) : Prop := ∃ a d A C, e = .returned (.tuple #[.slice a K d, .int .i64 E]) ∧ Rl w a K A (fun _ => T) C x
theorem Rl.zero (w : World) (a : Option Addr) (A : Nat → Option Addr) (L C : Nat → Nat) (x : Nat → Nat → Nat) : Rl w a 0 A L C x := ⟨fun i h => by omega, fun i h => by omega, fun i h => by omega⟩
theorem Ou.rl {w : World} {base g n T : Nat} {B : Nat → Nat} {x : Nat → Nat → Nat} (h : Ou w base g n n T B x) (hx : ∀ o i, o < n → i < T → x o i < 256) : Rl w (some ⟨g, 0, none⟩) n (fun o => some ⟨B o, 0, none⟩) (fun _ => T) (fun _ => T) x :=
 ⟨fun o ho => ⟨g, 0, rfl, by rw [Nat.zero_add, h.ga.cell o ho, if_pos ho]⟩, fun o ho => (h.row o ho).sl fun i hi => hx o i ho hi, fun o ho e => by cases e⟩
theorem run_lt {w : World} {a b c bl : Option Addr} {nb : Nat} {F : Fl} {A : Nat → Option Addr} {L C : Nat → Nat} {bt : Nat → Nat → Nat} (h : FlR w a b c F) (hM : MayP F) (hB : Bw w bl nb A L C bt) (hR : RunP F nb L) {v j : Nat} (hv : v < F.ni + F.nn) (hj : j < len1 nb L) : vlx F bt v j < 256 :=
 qdm hM (fun v j h1 h2 h3 => h.fc8 h1 h2 h3) (fun u hu => by
  have h1 := hR.1 u hu
  have h2 := (hM.inp u hu).1
  exact (hB.rl.sl (F.inp u).toNat (by omega)).1 j (by rw [hR.2.one _ (by omega)]; exact hj)) hv
end Go.Proofs.Ytkfnedpnkeacpaa
