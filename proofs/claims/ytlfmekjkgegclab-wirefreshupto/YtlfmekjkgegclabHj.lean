/-
  Contracts of the wire's reference: All, Like.
-/
import Derived.Test.YtlfmekjkgegclabHi
namespace Go.Proofs.Ytlfmekjkgegclab
open Go.RowKit
theorem jchunk : (Try.prog.info? 30).map (fun i => (i.zero, i.size, i.bytes)) = some (some (.agg #[.int .u8 0, .slice none 0 0]), 2, 32) := by kernel_rfl
/-- Blocks of unlike types are not one. -/
theorem own_ne8 {w : World} {B B' n m s1 s2 : Nat} {T U : TypeId} {v u : Value} {xs ys : List Value} (hT : T ≠ U) (hv : w.ownsRow B T s1 v n xs) (hu : w.ownsRow B' U s2 u m ys) : v.ownBlock = none ∨ v.ownBlock ≠ u.ownBlock := by
  rcases hv.2 with ⟨e1, _⟩ | ⟨g1, cap, cur, e1, _, hg, _⟩
  · rw [e1]; exact .inl rfl
  · refine .inr ?_
    rcases hu.2 with ⟨e2, _⟩ | ⟨g2, cap2, cur2, e2, _, hg2, _⟩
    · rw [e1, e2]; simp [Value.ownBlock]
    · rw [e1, e2]
      intro he
      have h2 : g1 = g2 := by simpa [Value.ownBlock] using he
      subst h2
      rw [hg] at hg2
      have := Option.some.inj hg2
      injection this with _ h2
      exact absurd h2 hT
/-- The cells of k chunks, one behind the other. -/
def crow (tag : Nat → Nat) (S : Nat → Value) : Nat → List Value
  | 0 => []
  | k + 1 => crow tag S k ++ [.int .u8 (tag k : Nat), S k]
theorem crow_len (tag : Nat → Nat) (S : Nat → Value) : ∀ k, (crow tag S k).length = k * 2 := by
  intro k
  induction k with
  | zero => rfl
  | succ k ih => simp [crow, ih, Nat.add_mul]
theorem crow_congr {tag : Nat → Nat} {S S' : Nat → Value} : ∀ k, (∀ i, i < k → S i = S' i) → crow tag S k = crow tag S' k := by
  intro k
  induction k with
  | zero => intro _; rfl
  | succ k ih => intro h; simp only [crow]; rw [ih (fun i hi => h i (by omega)), h k (by omega)]
theorem crow_get (tag : Nat → Nat) (S : Nat → Value) : ∀ k i, i < k → (crow tag S k)[i * 2]? = some (.int .u8 (tag i : Nat)) ∧ (crow tag S k)[i * 2 + 1]? = some (S i) := by
  intro k
  induction k with
  | zero => intro i hi; omega
  | succ k ih =>
    intro i hi
    have hl := crow_len tag S k
    simp only [crow]
    by_cases e : i = k
    · subst e
      rw [List.getElem?_append_right (by omega), List.getElem?_append_right (by omega), hl]
      simp
    · rw [List.getElem?_append_left (by omega), List.getElem?_append_left (by omega)]
      exact ih i (by omega)
/-- A list of k chunks of the call's own: tags, and bodies of m i bytes F i, of the call's own too. -/
structure Cls (w : World) (B : Nat) (v : Value) (k : Nat) (tag m : Nat → Nat) (F : Nat → Nat → Nat) (S : Nat → Value) : Prop where
  own : w.ownsRow B 30 2 v k (crow tag S k)
  body : ∀ i, i < k → Jo w B 5 .u8 (S i) (m i) (F i)
theorem Cls.later {w w' : World} {B k : Nat} {v : Value} {tag m : Nat → Nat} {F : Nat → Nat → Nat} {S : Nat → Value} (h : Cls w B v k tag m F S) (hb : Below w.heap.size w w') : Cls w' B v k tag m F S :=
  ⟨World.ownsRow.kept h.own (jgrown.mpr hb) (by cases hv : v.ownBlock <;> simp), fun i hi => (h.body i hi).later hb⟩
theorem Cls.nil (w : World) (B : Nat) (tag m : Nat → Nat) (F : Nat → Nat → Nat) (S : Nat → Value) : Cls w B (.slice none 0 0) 0 tag m F S := ⟨World.ownsRow_nil _ _ _ _, fun i hi => by omega⟩
theorem Cls.form {w : World} {B k : Nat} {v : Value} {tag m : Nat → Nat} {F : Nat → Nat → Nat} {S : Nat → Value} (h : Cls w B v k tag m F S) : ∃ s d, v = .slice s k d ∧ (s = none → k = 0 ∧ d = 0) := by
  rcases h.own.2 with ⟨e, h0⟩ | ⟨g, cap, cur, e, _⟩
  · subst h0; exact ⟨none, 0, e, fun _ => ⟨rfl, rfl⟩⟩
  · exact ⟨_, cap, e, fun h => by cases h⟩
theorem two_new (w : World) (x y : Value) (t : TypeId) : ∀ j u, [x, y][j]? = some u → (w.alloc (.cells #[x, y] t)).cell? ((⟨w.heap.size, 0, none⟩ : Addr).add j) = some u := by
  intro j u hj
  have hlt : j < 2 := by have := (List.getElem?_eq_some_iff.1 hj).1; simpa using this
  have h : (w.alloc (.cells #[x, y] t)).heap[w.heap.size]? = some (.cells #[x, y] t (0, 0)) := Array.getElem?_push_size
  rw [show (⟨w.heap.size, 0, none⟩ : Addr).add j = ⟨w.heap.size, j, none⟩ by unfold Addr.add; split <;> simp_all, cell_of_row _ _ j _ _ _ h]
  rcases (by omega : j = 0 ∨ j = 1) with rfl | rfl <;> simpa using hj
/-- One chunk more. -/
theorem Cls.push {w w2 : World} {B k : Nat} {v v' x : Value} {tag m : Nat → Nat} {F : Nat → Nat → Nat} {S : Nat → Value} (h : Cls w B v k tag m F S) (hx : Jo w B 5 .u8 x (m k) (F k)) (hB : B ≤ w.heap.size)
    (hown : w2.ownsRow B 30 2 v' (k + 1) (crow tag S k ++ [.int .u8 (tag k : Nat), x])) (hg : w.grownBy w2 v.ownBlock) : Cls w2 B v' (k + 1) tag m F (fun i => if i = k then x else S i) ∧ Below B w w2 := by
  have hne : ∀ {u : Value} {q : Nat} {G : Nat → Nat}, Jo w B 5 .u8 u q G → u.ownBlock = none ∨ u.ownBlock ≠ v.ownBlock := fun hu => own_ne8 (by decide) hu h.own
  refine ⟨⟨?_, fun i hi => ?_⟩, jbelow hg hB (fun g hg' => ?_)⟩
  · simp only [crow, if_pos]
    rw [crow_congr (S' := S) k (fun i hi => if_neg (by omega))]
    exact hown
  · by_cases e : i = k
    · subst e
      rw [if_pos rfl]
      exact hx.kept hg (hne hx)
    · rw [if_neg e]
      exact (h.body i (by omega)).kept hg (hne (h.body i (by omega)))
  · rcases h.own.2 with ⟨e, _⟩ | ⟨g', cap, cur, e, hb, _⟩
    · rw [e] at hg'; simp [Value.ownBlock] at hg'
    · rw [e] at hg'
      have : g' = g := by simpa [Value.ownBlock] using hg'
      omega
/-- The first k chunks of f: where they begin, how many bytes their bodies and lengths have. -/
def Pth (f : Nat → Nat) (n k : Nat) (pos v s : Nat → Nat) : Prop := pos 0 = 0 ∧ ∀ i, i < k → RdOk (fun j => f (pos i + j)) (n - pos i) (v i) (s i) ∧ pos (i + 1) = pos i + (1 + (s i + v i) + 4)
/-- What All tells: k chunks up to the end, or an error behind k chunks. -/
def AllA (f : Nat → Nat) (n k : Nat) (pos v s : Nat → Nat) (E : Nat) : Prop := Pth f n k pos v s ∧ pos k ≤ n ∧ ((E = 0 ∧ pos k = n) ∨ (pos k < n ∧ RdE (fun j => f (pos k + j)) (n - pos k) E))
theorem Pth.le {f : Nat → Nat} {n k : Nat} {pos v s : Nat → Nat} (h : Pth f n k pos v s) : ∀ i, i ≤ k → pos i ≤ n ∧ 6 * i ≤ pos i := by
  intro i
  induction i with
  | zero => intro _; rw [h.1]; omega
  | succ i ih =>
    intro hi
    obtain ⟨h1, h2⟩ := h.2 i (by omega)
    have h3 := ih (by omega)
    have h4 := h1.fits
    have h5 := h1.num.s1
    omega
theorem Pth.lt {f : Nat → Nat} {n k : Nat} {pos v s : Nat → Nat} (h : Pth f n k pos v s) {i : Nat} (hi : i < k) : pos i < n := by
  have h1 := (h.2 i hi).1.fits
  omega
theorem all_ex (f : Nat → Nat) (n : Nat) : ∃ k pos v s E, AllA f n k pos v s E := by
  have step : ∀ d k pos v s, Pth f n k pos v s → pos k + d = n → ∃ k pos v s E, AllA f n k pos v s E := by
    intro d
    induction d using Nat.strongRecOn with
    | _ d ih =>
      intro k pos v s hp hd
      by_cases h0 : d = 0
      · exact ⟨k, pos, v, s, 0, hp, by omega, .inl ⟨rfl, by omega⟩⟩
      · rcases rd_ex (fun j => f (pos k + j)) (n - pos k) with ⟨v', s', h⟩ | ⟨E, h⟩
        · have hf := h.fits
          refine ih (d - (1 + (s' + v') + 4)) (by omega) (k + 1) (fun i => if i = k + 1 then pos k + (1 + (s' + v') + 4) else pos i) (fun i => if i = k then v' else v i) (fun i => if i = k then s' else s i) ⟨?_, fun i hi => ?_⟩ ?_
          · show (if 0 = k + 1 then _ else pos 0) = 0
            rw [if_neg (by omega)]
            exact hp.1
          · by_cases e : i = k
            · subst e
              simp only [if_true, if_neg (show ¬ i = i + 1 by omega)]
              exact ⟨h, trivial⟩
            · have h2 := hp.2 i (by omega)
              simp only [if_neg e, if_neg (show ¬ i = k + 1 by omega), if_neg (show ¬ i + 1 = k + 1 by omega)]
              exact h2
          · show (if k + 1 = k + 1 then _ else pos (k + 1)) + _ = n
            rw [if_pos rfl]
            omega
        · exact ⟨k, pos, v, s, E, hp, by omega, .inr ⟨by omega, h⟩⟩
  exact step n 0 (fun _ => 0) (fun _ => 0) (fun _ => 0) ⟨rfl, fun i hi => by omega⟩ (by omega)
end Go.Proofs.Ytlfmekjkgegclab
