/-
  The program's wire, as the checks use it.
-/
import Derived.Test.YtlfmekjkgegclabIf
namespace Go.Proofs.Ytlfmekjkgegclab
open Go.RowKit
theorem wsum (w : World) (a : Option Addr) (n c : Nat) (f : Nat → Nat) (ha : Bt w a n c f) (hn : n ≤ 140737488351232) :
    Calls Try.prog 16 #[.slice a n c] w fun e w' => e = .returned (.int .u32 ((cs f n : Nat) : Int)) ∧ Below w.heap.size w w' :=
  qsum_ok w a n c f ha.sl hn
theorem wnum_ok (w : World) (n L : Nat) (hn : n < 9223372036854775808) (HN : Hid (NF n L)) :
    Calls Try.prog 9 #[.int .i64 (n : Int)] w fun e w' => LsP w w' e L (nby n) 0 :=
  (qnum_ok w n L hn HN).mono (fun e w' h => by
    obtain ⟨v, he, ho, hb⟩ := h
    obtain ⟨s, d, rfl, hbt⟩ := ho.bt (fun i _ => nby_lt n i)
    exact ⟨s, d, he, hbt, hb⟩)
theorem wnum_bad (w : World) (n : Int) (hn : n < 0) : Calls Try.prog 9 #[.int .i64 n] w fun e w' => LsP w w' e 0 (fun _ => 0) 2 :=
  (qnum_bad w n hn).mono (fun e w' h => ⟨none, 0, h.1, bt_zero _ _, by rw [← h.2]; exact Below.refl _ _⟩)
theorem wrn (w : World) (a : Option Addr) (n c v s E : Nat) (f : Nat → Nat) (ha : Bt w a n c f) (hn : n ≤ 140737488351232) (h : RN f n v s E) :
    Calls Try.prog 8 #[.slice a n c] w fun e w' => e = .returned (.tuple #[.int .i64 (v : Int), .int .i64 (s : Int), .int .i64 (E : Int)]) ∧ Below w.heap.size w w' :=
  (qread_ok w a n c v s E f ha.sl hn h).mono (fun e w' h => ⟨h.1, by rw [← h.2]; exact Below.refl _ _⟩)
theorem wtext_ok (w : World) (a : Option Addr) (n c L : Nat) (f : Nat → Nat) (ha : Bt w a n c f) (hn : n ≤ 4194304) (HN : Hid (NF n L)) :
    Calls Try.prog 18 #[.slice a n c] w fun e w' => LsP w w' e (L + n) (txf f n L) 0 :=
  (qtext_ok w a n c L f ha.sl ha.nil hn HN).mono (fun e w' h => by
    obtain ⟨v, he, ho, hb⟩ := h
    obtain ⟨s, d, rfl, hbt⟩ := ho.bt (txf_lt ha.sl.1)
    exact ⟨s, d, he, hbt, hb⟩)
theorem wtext_limit (w : World) (a : Option Addr) (n c : Nat) (hn : 4194304 < n) : Calls Try.prog 18 #[.slice a n c] w fun e w' => LsP w w' e 0 (fun _ => 0) 4 :=
  (qtext_limit w a n c hn).mono (fun e w' h => ⟨none, 0, h.1, bt_zero _ _, by rw [← h.2]; exact Below.refl _ _⟩)
theorem wrt_ok (w : World) (a : Option Addr) (n c v s most : Nat) (f : Nat → Nat) (ha : Bt w a n c f) (hn : n ≤ 140737488351232) (hm : most < 9223372036854775808) (h : RnOk f n v s) (hv : v ≤ most) (hfit : v + s ≤ n) :
    Calls Try.prog 19 #[.slice a n c, .int .i64 (most : Int)] w fun e w' => LnP w w' e v (fun j => f (s + j)) ((s + v : Nat) : Int) 0 :=
  (qrt_ok w a n c v s most f ha.sl ha.room hn hm h hv hfit).mono (fun e w' h => by
    obtain ⟨x, he, ho, hb⟩ := h
    obtain ⟨s, d, rfl, hbt⟩ := ho.bt (fun i hi => ha.sl.1 _ (by omega))
    exact ⟨s, d, he, hbt, hb⟩)
theorem RtE.small {f : Nat → Nat} {n E : Nat} {most : Int} (h : RtE f n most E) : E ≤ 8 := by
  rcases h with ⟨_, rfl⟩ | ⟨_, ⟨_, _, h, _⟩ | ⟨_, _, _, ⟨_, rfl⟩ | ⟨_, _, rfl⟩⟩⟩
  · decide
  · rcases h with ⟨rfl, _⟩ | ⟨rfl, _⟩ | ⟨rfl, _⟩ <;> decide
  · decide
  · decide
theorem RdE.small {f : Nat → Nat} {n E : Nat} (h : RdE f n E) : E ≤ 80 := by
  rcases h with ⟨_, rfl⟩ | ⟨_, h⟩ | ⟨_, _, _, _, _, ⟨_, rfl⟩ | ⟨_, _, rfl⟩⟩
  · decide
  · have := h.small; omega
  · decide
  · decide
theorem wrt_bad (w : World) (a : Option Addr) (n c E : Nat) (most : Int) (f : Nat → Nat) (ha : Bt w a n c f) (hn : n ≤ 140737488351232) (hm : most < 9223372036854775808) (h : RtE f n most E) :
    Calls Try.prog 19 #[.slice a n c, .int .i64 most] w fun e w' => LnP w w' e 0 (fun _ => 0) 0 (E : Int) :=
  (qrt_bad w a n c E most f ha.sl ha.room hn hm h).mono (fun e w' h => ⟨none, 0, h.1, bt_zero _ _, by rw [← h.2]; exact Below.refl _ _⟩)
theorem wwrite_f (w : World) (tag n c L : Nat) (a : Option Addr) (f : Nat → Nat) (ht : tag < 256) (ha : Bt w a n c f) (hn : n ≤ 4194304) (HN : Hid (NF n L)) :
    Calls Try.prog 12 #[.agg #[.int .u8 (tag : Int), .slice a n c]] w fun e w' => LsF w w' e (1 + (L + n) + 4) (chf tag f n L) 0 :=
  (qwrite_ok w tag n c L a f ht ha.sl ha.nil hn HN).mono (fun e w' h => by
    obtain ⟨x, he, ho, hb⟩ := h
    obtain ⟨s, d, rfl, hbt⟩ := ho.bt (chf_lt ht ha.sl.1)
    exact ⟨s, d, he, hbt, ho.fr8, hb⟩)
theorem wwrite_ok (w : World) (tag n c L : Nat) (a : Option Addr) (f : Nat → Nat) (ht : tag < 256) (ha : Bt w a n c f) (hn : n ≤ 4194304) (HN : Hid (NF n L)) :
    Calls Try.prog 12 #[.agg #[.int .u8 (tag : Int), .slice a n c]] w fun e w' => LsP w w' e (1 + (L + n) + 4) (chf tag f n L) 0 :=
  (wwrite_f w tag n c L a f ht ha hn HN).mono (fun _ _ ⟨s, d, h1, h2, _, h4⟩ => ⟨s, d, h1, h2, h4⟩)
theorem wwrite_limit (w : World) (tag n c : Nat) (a : Option Addr) (hn : 4194304 < n) : Calls Try.prog 12 #[.agg #[.int .u8 (tag : Int), .slice a n c]] w fun e w' => LsP w w' e 0 (fun _ => 0) 4 :=
  (qwrite_limit w tag n c a hn).mono (fun _ _ h => ⟨none, 0, h.1, bt_zero _ _, h.2⟩)
theorem wrd_ok (w : World) (a : Option Addr) (n c v s : Nat) (f : Nat → Nat) (ha : Bt w a n c f) (hn : n ≤ 140737488351232) (h : RdOk f n v s) :
    Calls Try.prog 11 #[.slice a n c] w fun e w' => CnP w w' e (f 0) v (fun j => f (1 + (s + j))) ((1 + (s + v) + 4 : Nat) : Int) 0 :=
  (qrd_ok w a n c v s f ha.sl ha.room hn h).mono (fun e w' h' => by
    obtain ⟨x, he, ho, hb⟩ := h'
    obtain ⟨sx, d, rfl, hbt⟩ := ho.bt (fun i hi => ha.sl.1 _ (by have := h.fits; omega))
    exact ⟨sx, d, he, hbt, hb⟩)
theorem wrd_bad (w : World) (a : Option Addr) (n c E : Nat) (f : Nat → Nat) (ha : Bt w a n c f) (hn : n ≤ 140737488351232) (h : RdE f n E) :
    Calls Try.prog 11 #[.slice a n c] w fun e w' => CnP w w' e 0 0 (fun _ => 0) 0 (E : Int) :=
  (qrd_bad w a n c E f ha.sl ha.room hn h h.small).mono (fun e w' h' => by
    obtain ⟨x, he, ho, hb⟩ := h'
    obtain ⟨sx, d, rfl, hbt⟩ := ho.bt (fun i hi => by omega)
    exact ⟨sx, d, he, hbt, hb⟩)
theorem wall (w : World) (a : Option Addr) (n c k E : Nat) (f pos v s : Nat → Nat) (ha : Bt w a n c f) (hn : n ≤ 20000000000000) (h : AllA f n k pos v s E) :
    Calls Try.prog 14 #[.slice a n c] w fun e w' => AlP w w' e f k pos v s E :=
  (qall_any w a n c k E f pos v s ha.sl ha.room hn h (by rcases h.2.2 with ⟨rfl, _⟩ | ⟨_, h⟩; decide; exact h.small)).mono (fun e w' h' => h'.al ha.sl.1 h)
end Go.Proofs.Ytlfmekjkgegclab
