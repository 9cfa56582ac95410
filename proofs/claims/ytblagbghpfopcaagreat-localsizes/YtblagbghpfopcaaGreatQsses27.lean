/-
  What the program's gauss answers of lists; the reference's, in the same words.
-/
import Derived.Test.YtblagbghpfopcaaGreatQsses00
import Derived.Test.YtblagbghpfopcaaGreatQsses26
set_option maxRecDepth 100000
set_option maxHeartbeats 16000000
namespace Go.Proofs.YtblagbghpfopcaaGreat
open Go.RowKit
/-- What Solve, Combine answer. -/
def LstP (w w' : World) (e : Ending) (n : Nat) (Q : (Nat → Nat) → Prop) : Prop := ∃ s d x, e = .returned (.tuple #[.slice s n d, .bool true, .int .i64 0]) ∧ Mt w' s n d x ∧ Q x ∧ Below w.heap.size w w'
theorem ob_mt {w : World} {B n d : Nat} {s : Option Addr} {f : Nat → Nat} (h : Ob w B (.slice s n d) n f) (hf : ∀ i, i < n → f i < 256) : Mt w s n d f := qem h hf
theorem qlg (w : World) (r c n k kb : Nat) (a b : Option Addr) (F Y : Nat → Nat) (ha : Mt w a n k F) (R : Rt r c n) (hb : Sl w b c Y) (hs : Spn (m2 F r c) r (ext0 Y c)) : Calls Tryz.prog 39 #[mv r c a n k, .slice b c kb] w fun e w' => LstP w w' e r (CmbA F Y r c) :=
 (rcomb_ok w r c n k kb a b F Y ha R hb).mono fun _ _ h => by
  rcases h with ⟨s, d, x, he, ho, hx, hb⟩ | ⟨_, hno, _⟩
  ·exact ⟨s, d, x, he, ob_mt ho (fun i _ => hx.1.1 i), hx, hb⟩
  ·exact absurd hs hno
end Go.Proofs.YtblagbghpfopcaaGreat
