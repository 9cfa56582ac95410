/-
  What the program's gauss answers of lists; the reference's, in the same words.
  Degrees, values, roots and divisors of polynomials: no Go in sight.
  What a check's rows tell.
  What the program's matroid rests on: spans told by kernels, rows of noughts, factors of combinations. No Go in sight.
-/
import Derived.Test.YtblagbghpfopcaaGreatQffsh00
import Derived.Test.YtblagbghpfopcaaGreatQffsh28
import Derived.Test.YtblagbghpfopcaaGreatQffsh05
import Derived.Test.YtblagbghpfopcaaGreatQffsh13
import Derived.Test.YtblagbghpfopcaaGreatQffsh30
import Derived.Test.YtblagbghpfopcaaGreatQffsh21
set_option maxRecDepth 100000
set_option maxHeartbeats 16000000
namespace Go.Proofs.YtblagbghpfopcaaGreat
open Go.RowKit
/-- What Solve, Combine answer. -/
def LstP (w w' : World) (e : Ending) (n : Nat) (Q : (Nat → Nat) → Prop) : Prop := ∃ s d x, e = .returned (.tuple #[.slice s n d, .bool true, .int .i64 0]) ∧ Mt w' s n d x ∧ Q x ∧ Below w.heap.size w w'
def NoneP (w w' : World) (e : Ending) (E : Int) : Prop := e = .returned (.tuple #[.slice none 0 0, .bool false, .int .i64 E]) ∧ Below w.heap.size w w'
theorem ob_mt {w : World} {B n d : Nat} {s : Option Addr} {f : Nat → Nat} (h : Ob w B (.slice s n d) n f) (hf : ∀ i, i < n → f i < 256) : Mt w s n d f := qet h hf
theorem qlw (w : World) (r c n k kb : Nat) (a b : Option Addr) (F Y : Nat → Nat) (ha : Mt w a n k F) (R : Rt r c n) (hb : Sl w b c Y) (hs : Spn (m2 F r c) r (ext0 Y c)) : Calls Tryz.prog 39 #[mv r c a n k, .slice b c kb] w fun e w' => LstP w w' e r (CmbA F Y r c) :=
 (rcomb_ok w r c n k kb a b F Y ha R hb).mono fun _ _ h => by
  rcases h with ⟨s, d, x, he, ho, hx, hb⟩ | ⟨_, hno, _⟩
  ·exact ⟨s, d, x, he, ob_mt ho (fun i _ => hx.1.1 i), hx, hb⟩
  ·exact absurd hs hno

/-- No coefficient from n on. -/
def Above (n : Nat) (p : Nat → Nat) : Prop := ∀ i, n ≤ i → p i = 0
theorem Above.mono {n m : Nat} {p : Nat → Nat} (h : Above n p) (hnm : n ≤ m) : Above m p := fun i hi => h i (by omega)
theorem Above.pa {n : Nat} {p q : Nat → Nat} (hp : Above n p) (hq : Above n q) : Above n (pa p q) := fun i hi => by
 show p i ^^^ q i = 0
 rw [hp i hi, hq i hi]; rfl
theorem pm_above {n m : Nat} {p q : Nat → Nat} (hp : Above n p) (hq : Above m q) (i : Nat) (hi : n + m ≤ i + 1) : pm p q i = 0 := by
 refine qag (fun k _ => ?_)
 by_cases h : n ≤ k
 ·rw [hp k h, qac]
 ·rw [hq (i - k) (by omega), qa9]
theorem Above.pm {n m : Nat} {p q : Nat → Nat} (hp : Above n p) (hq : Above m q) : Above (n + m) (pm p q) := fun i hi => pm_above hp hq i (by omega)
theorem qez (a b : Nat) : a ^^^ b = 0 ↔ a = b := by
 constructor
 ·intro h
  have : a ^^^ b ^^^ b = 0 ^^^ b := by rw [h]
  rw [Nat.xor_assoc, Nat.xor_self, Nat.xor_zero, Nat.zero_xor] at this
  exact this
 ·rintro rfl; exact Nat.xor_self a
/-! ### Values -/
/-- The value of a polynomial of n coefficients at x. -/
def ev (p : Nat → Nat) (n x : Nat) : Nat := xs (fun i => fm (p i) (fpow x i)) n
/-! ### Roots -/
/-- x and r. -/
def lin (r : Nat) (i : Nat) : Nat := if i = 0 then r else if i = 1 then 1 else 0
theorem qm1 (r : Nat) : Above 2 (lin r) := fun i hi => by unfold lin; rw [if_neg (by omega), if_neg (by omega)]
theorem lin_pm (r : Nat) (q : Nat → Nat) (hq : El q) : (∀ i, pm (lin r) q (i + 1) = fm r (q (i + 1)) ^^^ q i) ∧ pm (lin r) q 0 = fm r (q 0) := by
 constructor
 ·intro i
  have z : xs (fun k => fm (lin r (k + 1 + 1)) (q (i + 1 - (k + 1 + 1)))) i = 0 := qag (fun k _ => by
   rw [show lin r (k + 1 + 1) = 0 from qm1 r _ (by omega), qac])
  unfold pm
  rw [qfv, qfv, z, Nat.xor_zero]
  show fm (lin r 0) (q (i + 1 - 0)) ^^^ fm (lin r 1) (q (i + 1 - 1)) = _
  rw [show lin r 0 = r from rfl, show lin r 1 = 1 from rfl, Nat.sub_zero, Nat.add_sub_cancel, qb7 _ (hq i)]
 ·simp only [pm, xs, Nat.zero_xor]
  rfl
/-- A root splits off a factor. -/
theorem factor {n : Nat} {p : Nat → Nat} {r : Nat} (hp : El p) (hr : r < 256) (hn : Above (n + 1) p) (h0 : ev p (n + 1) r = 0) : ∃ q, El q ∧ Above n q ∧ ∀ i, p i = pm (lin r) q i := by
 -- q i: the sum of p (i + 1 + j) times r to the power j
 refine ⟨fun i => xs (fun j => fm (p (i + 1 + j)) (fpow r j)) (n - i), fun i => qhl (fun k _ => qaq _ _ (hp _)), fun i hi => by show xs _ (n - i) = 0; rw [show n - i = 0 by omega]; rfl, ?_⟩
 have hel : El (fun i => xs (fun j => fm (p (i + 1 + j)) (fpow r j)) (n - i)) := fun i => qhl (fun k _ => qaq _ _ (hp _))
 have step : ∀ i k, fm r (xs (fun j => fm (p (i + 1 + j)) (fpow r j)) k) = xs (fun j => fm (p (i + 1 + j)) (fpow r (j + 1))) k := by
  intro i k
  rw [qd3]
  refine qa7 (fun j _ => ?_)
  simp only [fpow]
  rw [← qam r _ _ hr (hp _), qaf r _ hr (hp _), qam _ _ _ (hp _) hr, qaf r _ hr (fpow_lt r j)]
 have head : ∀ i k, xs (fun j => fm (p (i + j)) (fpow r j)) (k + 1) = p i ^^^ xs (fun j => fm (p (i + 1 + j)) (fpow r (j + 1))) k := by
  intro i k
  rw [qfv]
  show fm (p (i + 0)) (fpow r 0) ^^^ _ = _
  rw [show fpow r 0 = 1 from rfl, Nat.add_zero, qbe _ (hp i)]
  congr 1
  refine qa7 (fun j _ => ?_)
  rw [show i + (j + 1) = i + 1 + j by omega]
 intro i
 cases i with
 | zero =>
  rw [(lin_pm r _ hel).2]
  show p 0 = fm r (xs (fun j => fm (p (0 + 1 + j)) (fpow r j)) (n - 0))
  rw [step, Nat.sub_zero]
  have e := head 0 n
  have e2 : xs (fun j => fm (p (0 + j)) (fpow r j)) (n + 1) = 0 := by
   exact (qa7 (fun k _ => by rw [Nat.zero_add])).trans h0
  rw [e2] at e
  exact (qez _ _).mp e.symm
 | succ i =>
  rw [(lin_pm r _ hel).1 i]
  show p (i + 1) = fm r (xs (fun j => fm (p (i + 1 + 1 + j)) (fpow r j)) (n - (i + 1))) ^^^ xs (fun j => fm (p (i + 1 + j)) (fpow r j)) (n - i)
  rw [step]
  by_cases h : i < n
  ·rw [show n - i = n - (i + 1) + 1 by omega, head (i + 1) (n - (i + 1)), Nat.xor_comm (p (i + 1)), ← Nat.xor_assoc, Nat.xor_self, Nat.zero_xor]
  ·rw [show n - (i + 1) = 0 by omega, show n - i = 0 by omega, hn (i + 1) (by omega)]
   simp [xs]
open Go.RowKit
theorem qmu {F : Nat → Nat} {r c n s : Nat} (hF : ∀ i, i < n → F i < 256) (R : Rt r c n) {y : Nat → Nat} : Spn (m2 (pkf F (lf s r) c) (cn s r) c) (cn s r) y ↔ SS (m2 F r c) r s y := by
 have hM := qax hF R
 have e : ∀ i j, i < cn s r → m2 (pkf F (lf s r) c) (cn s r) c i j = m2 F r c (lf s r i) j := fun i j hi => by rw [qed (fun t ht => (qaj ht).1) hi]
 constructor
 ·intro h
  exact Spn.trans (h.rows e) (qdk hM r s).1
 ·intro h
  exact (Spn.trans h (qdk hM r s).2).rows (fun i j hi => (e i j hi).symm)
/-- A combination that comes to noughts, in which the row i of s has a factor that is not 0: the row is a combination of the others. -/
theorem dep_ss {M : Nat → Nat → Nat} (hM : El2 M) {R s i : Nat} (hR : R ≤ 64) (hs : s < 2 ^ R) (hi : i < R) (hb : bt s i = 1) {x : Nat → Nat} (hx : El x) (h0 : ∀ j, lc x (fun t => M (lf s R t)) (cn s R) j = 0) (hne : x (cn s i) ≠ 0) : SS M R (rem s i) (M i) := by
 have hs64 := qca hR hs
 obtain ⟨hK, hlf⟩ := qkf hi hb
 have h1 : Spn (mk M (rem s i)) R (lc (fun t => if t = cn s i then 0 else x t) (fun t => M (lf s R t)) (cn s R)) := qem (fun t => by show (if t = cn s i then 0 else x t) < 256; split; decide; exact hx t) (fun t ht hnz => by
  by_cases e : t = cn s i
  ·rw [if_pos e] at hnz; exact absurd rfl hnz
  ·obtain ⟨a, b, c⟩ := qaj ht
   exact qck hM a ((qdy hs64 (by omega) _).2 ⟨b, fun e2 => e (by rw [← c, e2])⟩))
 have h2 : ∀ j, lc (fun t => if t = cn s i then 0 else x t) (fun t => M (lf s R t)) (cn s R) j = fm (x (cn s i)) (M i j) := fun j => by
  have e1 : lc x (fun t => M (lf s R t)) (cn s R) j = lc (fun t => (if t = cn s i then x (cn s i) else 0) ^^^ (if t = cn s i then 0 else x t)) (fun t => M (lf s R t)) (cn s R) j := qb1 (fun t _ => by
   by_cases e : t = cn s i
   ·rw [if_pos e, if_pos e, Nat.xor_zero, e]
   ·rw [if_neg e, if_neg e, Nat.zero_xor]) (fun _ _ => rfl)
  have e2 := h0 j
  rw [e1, qfe (fun t => by show (if t = cn s i then x (cn s i) else 0) < 256; split; exact hx _; decide) (fun t => by show (if t = cn s i then 0 else x t) < 256; split; decide; exact hx t)] at e2
  rw [← qd5 e2]
  unfold lc
  rw [qbr hK (fun k _ hk => by show fm (if k = cn s i then x (cn s i) else 0) _ = 0; rw [if_neg hk, qac])]
  show fm (if cn s i = cn s i then x (cn s i) else 0) (M (lf s R (cn s i)) j) = _
  rw [if_pos rfl, hlf]
 refine (qb2 (qae (x (cn s i))) h1).congr (fun j => ?_)
 rw [h2 j, ← qam _ _ _ (qae _) (hx _), qaf _ _ (qae _) (hx _), qar _ (hx _) hne, qb7 _ (hM i j)]
/-- The factors of picked rows, laid out over all rows. -/
def spr (s : Nat) (x : Nat → Nat) (i : Nat) : Nat := if bt s i = 1 then x (cn s i) else 0
theorem spr_el {s : Nat} {x : Nat → Nat} (hx : El x) : El (spr s x) := fun i => by unfold spr; split; exact hx _; decide
theorem lc_spr {M : Nat → Nat → Nat} {R s : Nat} (x : Nat → Nat) (j : Nat) : ∀ n, n ≤ R → lc (spr s x) (mk M s) n j = lc x (fun t => M (lf s R t)) (cn s n) j := by
 intro n
 induction n with
 | zero => intro _; rfl
 | succ n ih =>
  intro hn
  have h1 := ih (by omega)
  rw [qal]
  by_cases hb : bt s n = 1
  ·rw [hb]
   show lc (spr s x) (mk M s) n j ^^^ fm (spr s x n) (mk M s n j) = lc x _ (cn s n) j ^^^ fm (x (cn s n)) (M (lf s R (cn s n)) j)
   rw [h1, qhv hb, (qkf (by omega) hb).2]
   unfold spr
   rw [if_pos hb]
  ·rw [qav hb]
   show lc (spr s x) (mk M s) n j ^^^ fm (spr s x n) (mk M s n j) = lc x _ (cn s n) j
   rw [h1]
   unfold spr
   rw [if_neg hb, qac, Nat.xor_zero]
end Go.Proofs.YtblagbghpfopcaaGreat
