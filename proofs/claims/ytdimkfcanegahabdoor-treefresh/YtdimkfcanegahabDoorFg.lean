/-
  Contract of the tree's reference: ShapeText.
-/
import Derived.Test.YtdimkfcanegahabDoorCx
import Derived.Test.YtdimkfcanegahabDoorDk
namespace Go.Proofs.YtdimkfcanegahabDoor
open Go.RowKit
theorem ba_ext {a b : ByteArray} (h : a.data.toList = b.data.toList) : a = b := by
  obtain ⟨⟨l⟩⟩ := a
  obtain ⟨⟨m⟩⟩ := b
  cases h
  rfl
/-- The text of a shape. -/
def stb (d : Nat) (S : St) : ByteArray := ⟨(sby d S).toArray⟩
theorem stb_by (d : Nat) (S : St) : (stb d S).data.toList = sby d S := rfl
/-- The text of n rows, a semicolon between two. -/
def mrow (len : Nat → Nat) (F : Nat → Nat → Xt) : Nat → ByteArray
  | 0 => ⟨#[]⟩
  | k + 1 => (if k = 0 then ⟨#[]⟩ else mrow len F k ++ ⟨#[32, 59, 32]⟩) ++ lrow (F k) (len k)
theorem mrow_succ (len : Nat → Nat) (F : Nat → Nat → Xt) (k : Nat) : mrow len F (k + 1) = (if k = 0 then ⟨#[]⟩ else mrow len F k ++ ⟨#[32, 59, 32]⟩) ++ lrow (F k) (len k) := rfl
theorem mrow_mtr (len : Nat → Nat) (F : Nat → Nat → Xt) : ∀ n, (mrow len F n).data.toList = mtr len F n 0 := by
  intro n
  induction n with
  | zero => rfl
  | succ n ih =>
    rw [mrow_succ, mtr_snoc, app_by, Nat.zero_add, lrow_rtr]
    by_cases h : n = 0
    · rw [if_pos h, if_pos h]
    · rw [if_neg h, if_neg h, app_by, ih]
theorem mrow_size (len : Nat → Nat) (F : Nat → Nat → Xt) : ∀ n, (∀ i, i < n → len i ≤ 64 ∧ ∀ q, q < len i → MX 16 (F i q)) → (mrow len F n).size ≤ 11010243 * n := by
  intro n
  induction n with
  | zero => intro _; exact Nat.le_refl _
  | succ n ih =>
    intro h
    have h1 := ih (fun i hi => h i (by omega))
    obtain ⟨h2, h3⟩ := h n (by omega)
    have h4 := lrow_size (F n) (len n) h3
    have h5 : 172035 * len n ≤ 172035 * 64 := Nat.mul_le_mul_left _ h2
    rw [mrow_succ, ByteArray.size_append]
    split
    · show 0 + _ ≤ _; omega
    · rw [ByteArray.size_append]; show _ + 3 + _ ≤ _; omega
theorem sw_few {l : Ls} (h : swant l = true) : l.na ≤ 3 ∧ l.nr ≤ 64 := by
  unfold swant at h
  split at h
  · simp at h; omega
  · split at h
    · simp at h; omega
    · split at h
      · simp at h; omega
      · split at h
        · simp at h; omega
        · split at h
          · simp at h; omega
          · simp at h
theorem MS.not0 {S : St} (h : MS 0 S) : False := by
  obtain ⟨left, _, h⟩ := h
  have e : sleft 0 S left = -1 := rfl
  omega
theorem stb_name {d : Nat} {S : St} (h1 : (S []).k = 1) : stb (d + 1) S = (S []).nm := ba_ext (by
  rw [stb_by]
  unfold sby
  rw [if_pos h1])
theorem stb_args {d : Nat} {S : St} (h1 : (S []).k ≠ 1) (h5 : (S []).k ≤ 5) : stb (d + 1) S = ⟨(wdb (S []).k).toArray⟩ ++ ⟨#[32, 40, 32]⟩ ++ lrow (S []).args (S []).na ++ ⟨#[32, 41]⟩ := ba_ext (by
  rw [stb_by, sby_args h1 h5, app_by, app_by, app_by, lrow_rtr]
  simp)
theorem stb_two {d : Nat} {S : St} (h1 : 6 ≤ (S []).k) (h5 : (S []).k ≤ 7) : stb (d + 1) S = ⟨(wdb (S []).k).toArray⟩ ++ ⟨#[32, 40, 32]⟩ ++ stb d (part S 0) ++ ⟨#[32, 44, 32]⟩ ++ stb d (part S 1) ++ ⟨#[32, 41]⟩ := ba_ext (by
  rw [stb_by, sby_two h1 h5, app_by, app_by, app_by, app_by, app_by, stb_by, stb_by]
  simp)
theorem stb_rows {d : Nat} {S : St} (h1 : (S []).k = 8) : stb (d + 1) S = ⟨(wdb (S []).k).toArray⟩ ++ ⟨#[32, 91, 32]⟩ ++ mrow (S []).rl (S []).rows (S []).nr ++ ⟨#[32, 93]⟩ := ba_ext (by
  rw [stb_by, sby_rows h1, app_by, app_by, app_by, mrow_mtr]
  simp)
theorem wdb_few (k : Nat) : (⟨(wdb k).toArray⟩ : ByteArray).size ≤ 7 := by
  show (wdb k).toArray.size ≤ 7
  unfold wdb
  repeat' split
  all_goals simp
theorem stb_size : ∀ (d : Nat) (S : St), MS d S → (S []).nm.size ≤ 1000000 → (stb d S).size + 1000 ≤ 1000000000 * 2 ^ d := by
  intro d
  induction d with
  | zero => intro S h _; exact h.not0.elim
  | succ d ih =>
    intro S h hn
    obtain ⟨hs, hA, hR, hP⟩ := h.parts
    have hw := wdb_few (S []).k
    have h2 : 2 ^ (d + 1) = 2 * 2 ^ d := by rw [Nat.pow_succ]; omega
    have h3 : 1 ≤ 2 ^ d := Nat.one_le_two_pow
    obtain ⟨f1, f2⟩ := sw_few hs
    rcases swant_cases hs with ⟨g1, g2, g3, g4, g5⟩ | ⟨g1, g2, g3, g4, g5, g6⟩ | ⟨g1, g2, g3, g4, g5, g6⟩ | ⟨g1, g2, g3, g4, g5⟩
    · rw [stb_name g1]
      omega
    · rw [stb_args (by omega) g2, ByteArray.size_append, ByteArray.size_append, ByteArray.size_append]
      have h4 := lrow_size (S []).args (S []).na hA
      have h5 : 172035 * (S []).na ≤ 172035 * 3 := Nat.mul_le_mul_left _ f1
      show _ + 3 + _ + 2 + 1000 ≤ _
      omega
    · have hz : ∀ j, j < 2 → (stb d (part S j)).size + 1000 ≤ 1000000000 * 2 ^ d := fun j hj => by
        have hm := hP j (by omega)
        refine ih _ hm ?_
        cases d with
        | zero => exact hm.not0.elim
        | succ d =>
          rcases swant_cases hm.parts.1 with ⟨k1, k2, _⟩ | ⟨_, _, k3, _⟩ | ⟨_, _, k3, _⟩ | ⟨_, k3, _⟩
          · have := k2.most; omega
          · rw [k3]; show 0 ≤ _; omega
          · rw [k3]; show 0 ≤ _; omega
          · rw [k3]; show 0 ≤ _; omega
      rw [stb_two g1 g2, ByteArray.size_append, ByteArray.size_append, ByteArray.size_append, ByteArray.size_append, ByteArray.size_append]
      have z0 := hz 0 (by omega)
      have z1 := hz 1 (by omega)
      show _ + 3 + _ + 3 + _ + 2 + 1000 ≤ _
      generalize hq : 2 ^ d = Q at *
      rw [h2]
      omega
    · rw [stb_rows g1, ByteArray.size_append, ByteArray.size_append, ByteArray.size_append]
      have h4 := mrow_size (S []).rl (S []).rows (S []).nr (fun i hi => ⟨(hR i hi).2.1, (hR i hi).2.2⟩)
      have h5 : 11010243 * (S []).nr ≤ 11010243 * 64 := Nat.mul_le_mul_left _ f2
      show _ + 3 + _ + 2 + 1000 ≤ _
      omega
theorem ix9 (k : Nat) (x : ByteArray) (h : [(⟨#[]⟩ : ByteArray), ⟨#[]⟩, ⟨#[114, 101, 101, 100]⟩, ⟨#[99, 114, 111, 115, 115]⟩, ⟨#[108, 111, 99, 97, 108]⟩, ⟨#[112, 121, 114, 97, 109, 105, 100]⟩, ⟨#[112, 114, 111, 100, 117, 99, 116]⟩, ⟨#[106, 111, 105, 110]⟩, ⟨#[109, 97, 116, 114, 105, 120]⟩][k]? = some x) : ∀ w : World, (Instr.index 85 (.agg #[.string ⟨#[]⟩, .string ⟨#[]⟩, .string ⟨#[114, 101, 101, 100]⟩, .string ⟨#[99, 114, 111, 115, 115]⟩, .string ⟨#[108, 111, 99, 97, 108]⟩, .string ⟨#[112, 121, 114, 97, 109, 105, 100]⟩, .string ⟨#[112, 114, 111, 100, 117, 99, 116]⟩, .string ⟨#[106, 111, 105, 110]⟩, .string ⟨#[109, 97, 116, 114, 105, 120]⟩]) (.int .u8 (k : Int))).run Tryd.prog w = .ok (.string x) w := by
  rcases k with _ | _ | _ | _ | _ | _ | _ | _ | _ | k
  all_goals first | (cases h; intro w; kernel_rfl) | (simp at h)
end Go.Proofs.YtdimkfcanegahabDoor
