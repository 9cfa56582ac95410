/-
  Contract of the tree's reference: ShapeText.
-/
import Derived.Test.YtdimkfcanegahaaDoorCx
import Derived.Test.YtdimkfcanegahaaDoorDk
namespace Go.Proofs.YtdimkfcanegahaaDoor
open Go.RowKit
theorem ba_ext {a b : ByteArray} (h : a.data.toList = b.data.toList) : a = b := by
  obtain ⟨⟨l⟩⟩ := a
  obtain ⟨⟨m⟩⟩ := b
  cases h
  rfl
/-- The text of a shape. -/
def stb (d : Nat) (S : St) : ByteArray := ⟨(sby d S).toArray⟩
theorem stb_by (d : Nat) (S : St) : (stb d S).data.toList = sby d S := rfl
/-- The text of n rows, a semicolon between two. -/
def mrow (len : Nat → Nat) (F : Nat → Nat → Xt) : Nat → ByteArray
  | 0 => ⟨#[]⟩
  | k + 1 => (if k = 0 then ⟨#[]⟩ else mrow len F k ++ ⟨#[32, 59, 32]⟩) ++ lrow (F k) (len k)
theorem mrow_succ (len : Nat → Nat) (F : Nat → Nat → Xt) (k : Nat) : mrow len F (k + 1) = (if k = 0 then ⟨#[]⟩ else mrow len F k ++ ⟨#[32, 59, 32]⟩) ++ lrow (F k) (len k) := rfl
theorem mrow_mtr (len : Nat → Nat) (F : Nat → Nat → Xt) : ∀ n, (mrow len F n).data.toList = mtr len F n 0 := by
  intro n
  induction n with
  | zero => rfl
  | succ n ih =>
    rw [mrow_succ, mtr_snoc, app_by, Nat.zero_add, lrow_rtr]
    by_cases h : n = 0
    · rw [if_pos h, if_pos h]
    · rw [if_neg h, if_neg h, app_by, ih]
theorem mrow_size (len : Nat → Nat) (F : Nat → Nat → Xt) : ∀ n, (∀ i, i < n → len i ≤ 64 ∧ ∀ q, q < len i → MX 16 (F i q)) → (mrow len F n).size ≤ 11010243 * n := by
  intro n
  induction n with
  | zero => intro _; exact Nat.le_refl _
  | succ n ih =>
    intro h
    have h1 := ih (fun i hi => h i (by omega))
    obtain ⟨h2, h3⟩ := h n (by omega)
    have h4 := lrow_size (F n) (len n) h3
    have h5 : 172035 * len n ≤ 172035 * 64 := Nat.mul_le_mul_left _ h2
    rw [mrow_succ, ByteArray.size_append]
    split
    · show 0 + _ ≤ _; omega
    · rw [ByteArray.size_append]; show _ + 3 + _ ≤ _; omega
theorem sw_few {l : Ls} (h : swant l = true) : l.na ≤ 3 ∧ l.nr ≤ 64 := by
  unfold swant at h
  split at h
  · simp at h; omega
  · split at h
    · simp at h; omega
    · split at h
      · simp at h; omega
      · split at h
        · simp at h; omega
        · split at h
          · simp at h; omega
          · simp at h
theorem MS.not0 {S : St} (h : MS 0 S) : False := by
  obtain ⟨left, _, h⟩ := h
  have e : sleft 0 S left = -1 := rfl
  omega
theorem stb_name {d : Nat} {S : St} (h1 : (S []).k = 1) : stb (d + 1) S = (S []).nm := ba_ext (by
  rw [stb_by]
  unfold sby
  rw [if_pos h1])
theorem stb_args {d : Nat} {S : St} (h1 : (S []).k ≠ 1) (h5 : (S []).k ≤ 5) : stb (d + 1) S = ⟨(wdb (S []).k).toArray⟩ ++ ⟨#[32, 40, 32]⟩ ++ lrow (S []).args (S []).na ++ ⟨#[32, 41]⟩ := ba_ext (by
  rw [stb_by, sby_args h1 h5, app_by, app_by, app_by, lrow_rtr]
  simp)
theorem stb_two {d : Nat} {S : St} (h1 : 6 ≤ (S []).k) (h5 : (S []).k ≤ 7) : stb (d + 1) S = ⟨(wdb (S []).k).toArray⟩ ++ ⟨#[32, 40, 32]⟩ ++ stb d (part S 0) ++ ⟨#[32, 44, 32]⟩ ++ stb d (part S 1) ++ ⟨#[32, 41]⟩ := ba_ext (by
  rw [stb_by, sby_two h1 h5, app_by, app_by, app_by, app_by, app_by, stb_by, stb_by]
  simp)
theorem stb_rows {d : Nat} {S : St} (h1 : (S []).k = 8) : stb (d + 1) S = ⟨(wdb (S []).k).toArray⟩ ++ ⟨#[32, 91, 32]⟩ ++ mrow (S []).rl (S []).rows (S []).nr ++ ⟨#[32, 93]⟩ := ba_ext (by
  rw [stb_by, sby_rows h1, app_by, app_by, app_by, mrow_mtr]
  simp)
theorem wdb_few (k : Nat) : (⟨(wdb k).toArray⟩ : ByteArray).size ≤ 7 := by
  show (wdb k).toArray.size ≤ 7
  unfold wdb
  repeat' split
  all_goals simp
theorem stb_size : ∀ (d : Nat) (S : St), MS d S → (S []).nm.size ≤ 1000000 → (stb d S).size + 1000 ≤ 1000000000 * 2 ^ d := by
  intro d
  induction d with
  | zero => intro S h _; exact h.not0.elim
  | succ d ih =>
    intro S h hn
    obtain ⟨hs, hA, hR, hP⟩ := h.parts
    have hw := wdb_few (S []).k
    have h2 : 2 ^ (d + 1) = 2 * 2 ^ d := by rw [Nat.pow_succ]; omega
    have h3 : 1 ≤ 2 ^ d := Nat.one_le_two_pow
    obtain ⟨f1, f2⟩ := sw_few hs
    rcases swant_cases hs with ⟨g1, g2, g3, g4, g5⟩ | ⟨g1, g2, g3, g4, g5, g6⟩ | ⟨g1, g2, g3, g4, g5, g6⟩ | ⟨g1, g2, g3, g4, g5⟩
    · rw [stb_name g1]
      omega
    · rw [stb_args (by omega) g2, ByteArray.size_append, ByteArray.size_append, ByteArray.size_append]
      have h4 := lrow_size (S []).args (S []).na hA
      have h5 : 172035 * (S []).na ≤ 172035 * 3 := Nat.mul_le_mul_left _ f1
      show _ + 3 + _ + 2 + 1000 ≤ _
      omega
    · have hz : ∀ j, j < 2 → (stb d (part S j)).size + 1000 ≤ 1000000000 * 2 ^ d := fun j hj => by
        have hm := hP j (by omega)
        refine ih _ hm ?_
        cases d with
        | zero => exact hm.not0.elim
        | succ d =>
          rcases swant_cases hm.parts.1 with ⟨k1, k2, _⟩ | ⟨_, _, k3, _⟩ | ⟨_, _, k3, _⟩ | ⟨_, k3, _⟩
          · have := k2.most; omega
          · rw [k3]; show 0 ≤ _; omega
          · rw [k3]; show 0 ≤ _; omega
          · rw [k3]; show 0 ≤ _; omega
      rw [stb_two g1 g2, ByteArray.size_append, ByteArray.size_append, ByteArray.size_append, ByteArray.size_append, ByteArray.size_append]
      have z0 := hz 0 (by omega)
      have z1 := hz 1 (by omega)
      show _ + 3 + _ + 3 + _ + 2 + 1000 ≤ _
      generalize hq : 2 ^ d = Q at *
      rw [h2]
      omega
    · rw [stb_rows g1, ByteArray.size_append, ByteArray.size_append, ByteArray.size_append]
      have h4 := mrow_size (S []).rl (S []).rows (S []).nr (fun i hi => ⟨(hR i hi).2.1, (hR i hi).2.2⟩)
      have h5 : 11010243 * (S []).nr ≤ 11010243 * 64 := Nat.mul_le_mul_left _ f2
      show _ + 3 + _ + 2 + 1000 ≤ _
      omega
theorem ix9 (k : Nat) (x : ByteArray) (h : [(⟨#[]⟩ : ByteArray), ⟨#[]⟩, ⟨#[114, 101, 101, 100]⟩, ⟨#[99, 114, 111, 115, 115]⟩, ⟨#[108, 111, 99, 97, 108]⟩, ⟨#[112, 121, 114, 97, 109, 105, 100]⟩, ⟨#[112, 114, 111, 100, 117, 99, 116]⟩, ⟨#[106, 111, 105, 110]⟩, ⟨#[109, 97, 116, 114, 105, 120]⟩][k]? = some x) : ∀ w : World, (Instr.index 90 (.agg #[.string ⟨#[]⟩, .string ⟨#[]⟩, .string ⟨#[114, 101, 101, 100]⟩, .string ⟨#[99, 114, 111, 115, 115]⟩, .string ⟨#[108, 111, 99, 97, 108]⟩, .string ⟨#[112, 121, 114, 97, 109, 105, 100]⟩, .string ⟨#[112, 114, 111, 100, 117, 99, 116]⟩, .string ⟨#[106, 111, 105, 110]⟩, .string ⟨#[109, 97, 116, 114, 105, 120]⟩]) (.int .u8 (k : Int))).run Tryd.prog w = .ok (.string x) w := by
  rcases k with _ | _ | _ | _ | _ | _ | _ | _ | _ | k
  all_goals first | (cases h; intro w; kernel_rfl) | (simp at h)
set_option maxRecDepth 20000 in
set_option maxHeartbeats 16000000 in
theorem rstext_any : ∀ (d : Nat) (w : World) (S : St) (v : Value), d ≤ 16 → SV w v S → MS d S → Tab9 w →
    Calls Tryd.prog 40 #[v] w fun e w' => e = .returned (.string (stb d S)) ∧ Below w.heap.size w w' := by
  intro d
  induction d with
  | zero => intro w S v _ _ h _; exact h.not0.elim
  | succ d ih0 =>
    intro w S v hd hX hM ht
    have ih : ∀ (w' : World) (U : St) (u : Value), SV w' u U → MS d U → Below w.heap.size w w' → Calls Tryd.prog 40 #[u] w' fun e w'' => e = .returned (.string (stb d U)) ∧ Below w'.heap.size w' w'' := fun w' U u h2 h3 h4 => ih0 w' U u (by omega) h2 h3 (tab_later ht h4)
    obtain ⟨hs, hA, hR, hP⟩ := hM.parts
    have hcs := swant_cases hs
    obtain ⟨f1, f2⟩ := sw_few hs
    have HSz : Hid (∀ j, j < (S []).np → ∃ _ : Unit, (stb d (part S j)).size ≤ 65536000000000) := fun j hj => by
      have hm := hP j hj
      have h1 : (stb d (part S j)).size + 1000 ≤ 1000000000 * 2 ^ d := by
        refine stb_size _ _ hm ?_
        cases d with
        | zero => exact hm.not0.elim
        | succ d =>
          rcases swant_cases hm.parts.1 with ⟨k1, k2, _⟩ | ⟨_, _, k3, _⟩ | ⟨_, _, k3, _⟩ | ⟨_, k3, _⟩
          · have := k2.most; omega
          · rw [k3]; show 0 ≤ _; omega
          · rw [k3]; show 0 ≤ _; omega
          · rw [k3]; show 0 ≤ _; omega
      have h2 : 2 ^ d ≤ 2 ^ 16 := Nat.pow_le_pow_right (by omega) (by omega)
      exact ⟨(), by omega⟩
    have HN1 : Hid ((S []).k = 1 → stb (d + 1) S = (S []).nm) := stb_name
    have HN2 : Hid ((S []).k ≠ 1 → (S []).k ≤ 5 → stb (d + 1) S = ⟨(wdb (S []).k).toArray⟩ ++ ⟨#[32, 40, 32]⟩ ++ lrow (S []).args (S []).na ++ ⟨#[32, 41]⟩) := stb_args
    have HN6 : Hid (6 ≤ (S []).k → (S []).k ≤ 7 → stb (d + 1) S = ⟨(wdb (S []).k).toArray⟩ ++ ⟨#[32, 40, 32]⟩ ++ stb d (part S 0) ++ ⟨#[32, 44, 32]⟩ ++ stb d (part S 1) ++ ⟨#[32, 41]⟩) := stb_two
    have HN8 : Hid ((S []).k = 8 → stb (d + 1) S = ⟨(wdb (S []).k).toArray⟩ ++ ⟨#[32, 91, 32]⟩ ++ mrow (S []).rl (S []).rows (S []).nr ++ ⟨#[32, 93]⟩) := stb_rows
    obtain ⟨⟨aa, pa, ra, ca, cp, cr, rfl, ha, hr, hp⟩, hok⟩ := hX
    have HTb := jhid9 ht
    have HI := jhid9 ih
    obtain ⟨R, HRt⟩ : ∃ R, Hid (stb (d + 1) S = R) := ⟨_, rfl⟩
    rw [HRt.out] at HN1 HN2 HN6 HN8 ⊢
    clear HRt ih ih0 hs hM ht
    have HAr := jhid9 hA
    have HRr := jhid9 hR
    have HPp := jhid9 hP
    have HAa := jhid9 ha
    have HXr := jhid9 hr
    have HXp := jhid9 hp
    clear hA hR hP ha hr hp hok
    generalize S [] = l at *
    obtain ⟨k, nm, na, args, np, nr, rl, rows, ln, cl⟩ := l
    replace hcs : (k = 1 ∧ NameP nm ∧ na = 0 ∧ np = 0 ∧ nr = 0) ∨ (2 ≤ k ∧ k ≤ 5 ∧ nm = ⟨#[]⟩ ∧ 2 ≤ na ∧ np = 0 ∧ nr = 0) ∨ (6 ≤ k ∧ k ≤ 7 ∧ nm = ⟨#[]⟩ ∧ na = 0 ∧ np = 2 ∧ nr = 0) ∨ (k = 8 ∧ nm = ⟨#[]⟩ ∧ na = 0 ∧ np = 0 ∧ 1 ≤ nr) := hcs
    replace f1 : na ≤ 3 := f1
    replace f2 : nr ≤ 64 := f2
    replace HN1 : Hid (k = 1 → R = nm) := HN1
    replace HN2 : Hid (k ≠ 1 → k ≤ 5 → R = ⟨(wdb k).toArray⟩ ++ ⟨#[32, 40, 32]⟩ ++ lrow args na ++ ⟨#[32, 41]⟩) := HN2
    replace HN6 : Hid (6 ≤ k → k ≤ 7 → R = ⟨(wdb k).toArray⟩ ++ ⟨#[32, 40, 32]⟩ ++ stb d (part S 0) ++ ⟨#[32, 44, 32]⟩ ++ stb d (part S 1) ++ ⟨#[32, 41]⟩) := HN6
    replace HN8 : Hid (k = 8 → R = ⟨(wdb k).toArray⟩ ++ ⟨#[32, 91, 32]⟩ ++ mrow rl rows nr ++ ⟨#[32, 93]⟩) := HN8
    replace HAr : Hid (∀ i, i < na → MX 16 (args i)) := HAr
    replace HRr : Hid (∀ i, i < nr → 1 ≤ rl i ∧ rl i ≤ 64 ∧ ∀ q, q < rl i → MX 16 (rows i q)) := HRr
    replace HPp : Hid (∀ i, i < np → MS d (part S i)) := HPp
    replace HSz : Hid (∀ j, j < np → ∃ _ : Unit, (stb d (part S j)).size ≤ 65536000000000) := HSz
    replace HAa : Hid (∀ d, XL d w aa na args) := HAa
    replace HXr : Hid (XR w ra nr rl rows) := HXr
    replace HXp : Hid (∀ d, SL d w pa np (part S)) := HXp
    show Calls _ _ #[.agg #[.int .u8 (k : Int), .string nm, .slice aa na ca, .slice pa np cp, .slice ra nr cr, .int .i64 ln, .int .i64 cl]] _ fun e w' => e = .returned (.string R) ∧ _
    have HV := jhid9 (Vn.new w 33 #[.int .u8 (k : Int), .string nm, .slice aa na ca, .slice pa np cp, .slice ra nr cr, .int .i64 ln, .int .i64 cl])
    have c0 := HV.out.cell 0 _ rfl
    have c1 := HV.out.cell 1 _ rfl
    have c2 := HV.out.cell 2 _ rfl
    have c3 := HV.out.cell 3 _ rfl
    have c4 := HV.out.cell 4 _ rfl
    rcases hcs with ⟨rfl, -, rfl, rfl, rfl⟩ | ⟨k2, k5, -, na2, rfl, rfl⟩ | ⟨k6, k7, -, rfl, rfl, rfl⟩ | ⟨rfl, -, rfl, rfl, nr1⟩
    · obtain rfl := HN1.out rfl
      clear HN1 HN2 HN6 HN8 HSz HI HTb HAr HRr HPp HAa HXr HXp
      have hix : ∀ w : World, (Instr.index 90 (.agg #[.string ⟨#[]⟩, .string ⟨#[]⟩, .string ⟨#[114, 101, 101, 100]⟩, .string ⟨#[99, 114, 111, 115, 115]⟩, .string ⟨#[108, 111, 99, 97, 108]⟩, .string ⟨#[112, 121, 114, 97, 109, 105, 100]⟩, .string ⟨#[112, 114, 111, 100, 117, 99, 116]⟩, .string ⟨#[106, 111, 105, 110]⟩, .string ⟨#[109, 97, 116, 114, 105, 120]⟩]) (.int .u8 1)).run Tryd.prog w = .ok (.string ⟨#[]⟩) w := ix9 1 _ rfl
      go_enter Tryd.func40, Tryd.ntmps40
      go_wp2
      go_ret
      exact ⟨rfl, jlow _ _⟩
    · have HF := jhid9 (HN2.out (by omega) k5)
      clear HN1 HN2 HN6 HN8 HSz HI HRr HPp HXr HXp
      obtain ⟨x, Hx⟩ : ∃ x, Hid (lrow args na = x) := ⟨_, rfl⟩
      have hx : x.size ≤ 516105 := by rw [← Hx.out]; have := lrow_size args na HAr.out; have h5 : 172035 * na ≤ 172035 * 3 := Nat.mul_le_mul_left _ f1; omega
      have HC : Hid (∀ w' : World, Below w.heap.size w w' → Calls Tryd.prog 68 #[.slice aa na ca] w' fun e w'' => e = .returned (.string x) ∧ Below w'.heap.size w' w'') := fun w' hb => by rw [← Hx.out]; exact rrow_any w' aa na ca args (fun d => (HAa.out d).later hb) (by omega) HAr.out (tab_later HTb.out hb)
      rw [Hx.out] at HF
      clear Hx HTb HAr HAa
      by_cases hk2 : k = 2
      · subst hk2
        obtain rfl := HF.out
        clear HF
        have g0 : ¬ 9223372036854775807 < 4 + 3 + x.size := by omega
        have g1 : ¬ 9223372036854775807 < 4 + 3 + x.size + 2 := by omega
        have g2 : ¬ 9223372036854775807 < 7 + x.size := by omega
        have g3 : ¬ 9223372036854775807 < 7 + x.size + 2 := by omega
        have hix : ∀ w : World, (Instr.index 90 (.agg #[.string ⟨#[]⟩, .string ⟨#[]⟩, .string ⟨#[114, 101, 101, 100]⟩, .string ⟨#[99, 114, 111, 115, 115]⟩, .string ⟨#[108, 111, 99, 97, 108]⟩, .string ⟨#[112, 121, 114, 97, 109, 105, 100]⟩, .string ⟨#[112, 114, 111, 100, 117, 99, 116]⟩, .string ⟨#[106, 111, 105, 110]⟩, .string ⟨#[109, 97, 116, 114, 105, 120]⟩]) (.int .u8 2)).run Tryd.prog w = .ok (.string ⟨#[114, 101, 101, 100]⟩) w := ix9 2 _ rfl
        go_enter Tryd.func40, Tryd.ntmps40
        go_wp2_with (go_at_call 68; refine (HC.out _ (jlow _ _)).mono ?_; rintro e w2 ⟨rfl, hb2⟩; have HB2 := jhid9 (jtwo (jlow _ _) hb2); clear hb2)
        go_ret
        exact ⟨rfl, HB2.out⟩
      by_cases hk3 : k = 3
      · subst hk3
        obtain rfl := HF.out
        clear HF
        have g0 : ¬ 9223372036854775807 < 5 + 3 + x.size := by omega
        have g1 : ¬ 9223372036854775807 < 5 + 3 + x.size + 2 := by omega
        have g2 : ¬ 9223372036854775807 < 8 + x.size := by omega
        have g3 : ¬ 9223372036854775807 < 8 + x.size + 2 := by omega
        have hix : ∀ w : World, (Instr.index 90 (.agg #[.string ⟨#[]⟩, .string ⟨#[]⟩, .string ⟨#[114, 101, 101, 100]⟩, .string ⟨#[99, 114, 111, 115, 115]⟩, .string ⟨#[108, 111, 99, 97, 108]⟩, .string ⟨#[112, 121, 114, 97, 109, 105, 100]⟩, .string ⟨#[112, 114, 111, 100, 117, 99, 116]⟩, .string ⟨#[106, 111, 105, 110]⟩, .string ⟨#[109, 97, 116, 114, 105, 120]⟩]) (.int .u8 3)).run Tryd.prog w = .ok (.string ⟨#[99, 114, 111, 115, 115]⟩) w := ix9 3 _ rfl
        go_enter Tryd.func40, Tryd.ntmps40
        go_wp2_with (go_at_call 68; refine (HC.out _ (jlow _ _)).mono ?_; rintro e w2 ⟨rfl, hb2⟩; have HB2 := jhid9 (jtwo (jlow _ _) hb2); clear hb2)
        go_ret
        exact ⟨rfl, HB2.out⟩
      by_cases hk4 : k = 4
      · subst hk4
        obtain rfl := HF.out
        clear HF
        have g0 : ¬ 9223372036854775807 < 5 + 3 + x.size := by omega
        have g1 : ¬ 9223372036854775807 < 5 + 3 + x.size + 2 := by omega
        have g2 : ¬ 9223372036854775807 < 8 + x.size := by omega
        have g3 : ¬ 9223372036854775807 < 8 + x.size + 2 := by omega
        have hix : ∀ w : World, (Instr.index 90 (.agg #[.string ⟨#[]⟩, .string ⟨#[]⟩, .string ⟨#[114, 101, 101, 100]⟩, .string ⟨#[99, 114, 111, 115, 115]⟩, .string ⟨#[108, 111, 99, 97, 108]⟩, .string ⟨#[112, 121, 114, 97, 109, 105, 100]⟩, .string ⟨#[112, 114, 111, 100, 117, 99, 116]⟩, .string ⟨#[106, 111, 105, 110]⟩, .string ⟨#[109, 97, 116, 114, 105, 120]⟩]) (.int .u8 4)).run Tryd.prog w = .ok (.string ⟨#[108, 111, 99, 97, 108]⟩) w := ix9 4 _ rfl
        go_enter Tryd.func40, Tryd.ntmps40
        go_wp2_with (go_at_call 68; refine (HC.out _ (jlow _ _)).mono ?_; rintro e w2 ⟨rfl, hb2⟩; have HB2 := jhid9 (jtwo (jlow _ _) hb2); clear hb2)
        go_ret
        exact ⟨rfl, HB2.out⟩
      obtain rfl : k = 5 := by omega
      obtain rfl := HF.out
      clear HF
      have g0 : ¬ 9223372036854775807 < 7 + 3 + x.size := by omega
      have g1 : ¬ 9223372036854775807 < 7 + 3 + x.size + 2 := by omega
      have g2 : ¬ 9223372036854775807 < 10 + x.size := by omega
      have g3 : ¬ 9223372036854775807 < 10 + x.size + 2 := by omega
      have hix : ∀ w : World, (Instr.index 90 (.agg #[.string ⟨#[]⟩, .string ⟨#[]⟩, .string ⟨#[114, 101, 101, 100]⟩, .string ⟨#[99, 114, 111, 115, 115]⟩, .string ⟨#[108, 111, 99, 97, 108]⟩, .string ⟨#[112, 121, 114, 97, 109, 105, 100]⟩, .string ⟨#[112, 114, 111, 100, 117, 99, 116]⟩, .string ⟨#[106, 111, 105, 110]⟩, .string ⟨#[109, 97, 116, 114, 105, 120]⟩]) (.int .u8 5)).run Tryd.prog w = .ok (.string ⟨#[112, 121, 114, 97, 109, 105, 100]⟩) w := ix9 5 _ rfl
      go_enter Tryd.func40, Tryd.ntmps40
      go_wp2_with (go_at_call 68; refine (HC.out _ (jlow _ _)).mono ?_; rintro e w2 ⟨rfl, hb2⟩; have HB2 := jhid9 (jtwo (jlow _ _) hb2); clear hb2)
      go_ret
      exact ⟨rfl, HB2.out⟩
    · have HF := jhid9 (HN6.out k6 k7)
      clear HN1 HN2 HN6 HN8 HTb HAr HRr HAa HXr
      have HXp2 : Hid (∀ d, SL d w pa 2 (part S)) := HXp
      obtain ⟨b0, o0, kk0, na0, np0, nr0, ll0, cc0, nx0, ab0, pb0, rb0, ca0, cp0, cr0, ea0, hkid0, hcl0⟩ := SL.at_ HXp2.out (i := 0) (by omega)
      subst ea0
      have HKid0 := jhid9 hkid0
      have HCl0 := jhid9 hcl0
      obtain ⟨x0, Hx0⟩ : ∃ x, Hid (stb d (part S 0) = x) := ⟨_, rfl⟩
      have hz0 : ∃ _ : Unit, x0.size ≤ 65536000000000 := by rw [← Hx0.out]; exact HSz.out 0 (by omega)
      have HC0 : Hid (∀ w' : World, Below w.heap.size w w' → Calls Tryd.prog 40 #[.agg #[.int .u8 (kk0 : Int), .string nx0, .slice ab0 na0 ca0, .slice pb0 np0 cp0, .slice rb0 nr0 cr0, .int .i64 ll0, .int .i64 cc0]] w' fun e w'' => e = .returned (.string x0) ∧ Below w'.heap.size w' w'') := fun w' hb => by rw [← Hx0.out]; exact HI.out w' (part S 0) _ (HKid0.out.later hb) (HPp.out 0 (by omega)) hb
      clear hkid0 hcl0
      obtain ⟨b1, o1, kk1, na1, np1, nr1, ll1, cc1, nx1, ab1, pb1, rb1, ca1, cp1, cr1, ea1, hkid1, hcl1⟩ := SL.at_ HXp2.out (i := 1) (by omega)
      obtain ⟨rfl, rfl⟩ : b0 = b1 ∧ o0 = o1 := by cases ea1; exact ⟨rfl, rfl⟩
      have HKid1 := jhid9 hkid1
      have HCl1 := jhid9 hcl1
      obtain ⟨x1, Hx1⟩ : ∃ x, Hid (stb d (part S 1) = x) := ⟨_, rfl⟩
      have hz1 : ∃ _ : Unit, x1.size ≤ 65536000000000 := by rw [← Hx1.out]; exact HSz.out 1 (by omega)
      have HC1 : Hid (∀ w' : World, Below w.heap.size w w' → Calls Tryd.prog 40 #[.agg #[.int .u8 (kk1 : Int), .string nx1, .slice ab1 na1 ca1, .slice pb1 np1 cp1, .slice rb1 nr1 cr1, .int .i64 ll1, .int .i64 cc1]] w' fun e w'' => e = .returned (.string x1) ∧ Below w'.heap.size w' w'') := fun w' hb => by rw [← Hx1.out]; exact HI.out w' (part S 1) _ (HKid1.out.later hb) (HPp.out 1 (by omega)) hb
      clear hkid1 hcl1
      rw [Hx0.out, Hx1.out] at HF
      clear HSz HI HPp HXp HXp2 Hx0 Hx1
      by_cases hk6 : k = 6
      · subst hk6
        obtain rfl := HF.out
        clear HF
        have g0 : ¬ 9223372036854775807 < 7 + 3 + x0.size := by obtain ⟨_, y0⟩ := hz0; obtain ⟨_, y1⟩ := hz1; omega
        have g1 : ¬ 9223372036854775807 < 7 + 3 + x0.size + 3 := by obtain ⟨_, y0⟩ := hz0; obtain ⟨_, y1⟩ := hz1; omega
        have g2 : ¬ 9223372036854775807 < 7 + 3 + x0.size + 3 + x1.size := by obtain ⟨_, y0⟩ := hz0; obtain ⟨_, y1⟩ := hz1; omega
        have g3 : ¬ 9223372036854775807 < 7 + 3 + x0.size + 3 + x1.size + 2 := by obtain ⟨_, y0⟩ := hz0; obtain ⟨_, y1⟩ := hz1; omega
        have g4 : ¬ 9223372036854775807 < 10 + x0.size := by obtain ⟨_, y0⟩ := hz0; obtain ⟨_, y1⟩ := hz1; omega
        have g5 : ¬ 9223372036854775807 < 10 + x0.size + 3 := by obtain ⟨_, y0⟩ := hz0; obtain ⟨_, y1⟩ := hz1; omega
        have g6 : ¬ 9223372036854775807 < 10 + x0.size + 3 + x1.size := by obtain ⟨_, y0⟩ := hz0; obtain ⟨_, y1⟩ := hz1; omega
        have g7 : ¬ 9223372036854775807 < 10 + x0.size + 3 + x1.size + 2 := by obtain ⟨_, y0⟩ := hz0; obtain ⟨_, y1⟩ := hz1; omega
        clear hz0 hz1
        have HSa : Hid (∀ w' : World, Below w.heap.size w w' → Vn w' w.heap.size 33 #[.int .u8 6, .string nm, .slice aa 0 ca, .slice (some ⟨b0, o0, none⟩) 2 cp, .slice ra 0 cr, .int .i64 ln, .int .i64 cl] → (fun w' => w'.cell? ⟨w.heap.size, 3, none⟩ = some (.slice (some ⟨b0, o0, none⟩) 2 cp) ∧ w'.cell? ⟨b0, o0, none⟩ = some (.int .u8 (kk0 : Int)) ∧ w'.cell? ⟨b0, o0 + 1, none⟩ = some (.string nx0) ∧ w'.cell? ⟨b0, o0 + 2, none⟩ = some (.slice ab0 na0 ca0) ∧ w'.cell? ⟨b0, o0 + 3, none⟩ = some (.slice pb0 np0 cp0) ∧ w'.cell? ⟨b0, o0 + 4, none⟩ = some (.slice rb0 nr0 cr0) ∧ w'.cell? ⟨b0, o0 + 5, none⟩ = some (.int .i64 ll0) ∧ w'.cell? ⟨b0, o0 + 6, none⟩ = some (.int .i64 cc0) ∧ w'.cell? ⟨b0, o0 + 7, none⟩ = some (.int .u8 (kk1 : Int)) ∧ w'.cell? ⟨b0, o0 + 7 + 1, none⟩ = some (.string nx1) ∧ w'.cell? ⟨b0, o0 + 7 + 2, none⟩ = some (.slice ab1 na1 ca1) ∧ w'.cell? ⟨b0, o0 + 7 + 3, none⟩ = some (.slice pb1 np1 cp1) ∧ w'.cell? ⟨b0, o0 + 7 + 4, none⟩ = some (.slice rb1 nr1 cr1) ∧ w'.cell? ⟨b0, o0 + 7 + 5, none⟩ = some (.int .i64 ll1) ∧ w'.cell? ⟨b0, o0 + 7 + 6, none⟩ = some (.int .i64 cc1)) w') := fun w' hb hv => by
          obtain ⟨a0, a1, a2, a3, a4, a5, a6⟩ := HCl0.out w' hb
          obtain ⟨e0, e1, e2, e3, e4, e5, e6⟩ := HCl1.out w' hb
          rw [Nat.zero_mul, Nat.add_zero] at a0 a1 a2 a3 a4 a5 a6
          rw [Nat.one_mul] at e0 e1 e2 e3 e4 e5 e6
          exact ⟨hv.cell 3 _ rfl, a0, a1, a2, a3, a4, a5, a6, e0, e1, e2, e3, e4, e5, e6⟩
        have hix : ∀ w : World, (Instr.index 90 (.agg #[.string ⟨#[]⟩, .string ⟨#[]⟩, .string ⟨#[114, 101, 101, 100]⟩, .string ⟨#[99, 114, 111, 115, 115]⟩, .string ⟨#[108, 111, 99, 97, 108]⟩, .string ⟨#[112, 121, 114, 97, 109, 105, 100]⟩, .string ⟨#[112, 114, 111, 100, 117, 99, 116]⟩, .string ⟨#[106, 111, 105, 110]⟩, .string ⟨#[109, 97, 116, 114, 105, 120]⟩]) (.int .u8 6)).run Tryd.prog w = .ok (.string ⟨#[112, 114, 111, 100, 117, 99, 116]⟩) w := ix9 6 _ rfl
        go_enter Tryd.func40, Tryd.ntmps40
        go_wp2
        clear c0 c1 c2 c3 c4
        refine wp_region_held (S := fun w' => w'.cell? ⟨w.heap.size, 3, none⟩ = some (.slice (some ⟨b0, o0, none⟩) 2 cp) ∧ w'.cell? ⟨b0, o0, none⟩ = some (.int .u8 (kk0 : Int)) ∧ w'.cell? ⟨b0, o0 + 1, none⟩ = some (.string nx0) ∧ w'.cell? ⟨b0, o0 + 2, none⟩ = some (.slice ab0 na0 ca0) ∧ w'.cell? ⟨b0, o0 + 3, none⟩ = some (.slice pb0 np0 cp0) ∧ w'.cell? ⟨b0, o0 + 4, none⟩ = some (.slice rb0 nr0 cr0) ∧ w'.cell? ⟨b0, o0 + 5, none⟩ = some (.int .i64 ll0) ∧ w'.cell? ⟨b0, o0 + 6, none⟩ = some (.int .i64 cc0) ∧ w'.cell? ⟨b0, o0 + 7, none⟩ = some (.int .u8 (kk1 : Int)) ∧ w'.cell? ⟨b0, o0 + 7 + 1, none⟩ = some (.string nx1) ∧ w'.cell? ⟨b0, o0 + 7 + 2, none⟩ = some (.slice ab1 na1 ca1) ∧ w'.cell? ⟨b0, o0 + 7 + 3, none⟩ = some (.slice pb1 np1 cp1) ∧ w'.cell? ⟨b0, o0 + 7 + 4, none⟩ = some (.slice rb1 nr1 cr1) ∧ w'.cell? ⟨b0, o0 + 7 + 5, none⟩ = some (.int .i64 ll1) ∧ w'.cell? ⟨b0, o0 + 7 + 6, none⟩ = some (.int .i64 cc1)) (by kernel_rfl) ?_
        change wpAnyH _ _ _ _ _ _ _ _ (World.drew _)
        obtain ⟨W0, HW0⟩ : ∃ W0, Hid ((w.alloc (.cells #[.int .u8 6, .string nm, .slice aa 0 ca, .slice (some ⟨b0, o0, none⟩) 2 cp, .slice ra 0 cr, .int .i64 ln, .int .i64 cl] 33)).drew = W0) := ⟨_, rfl⟩
        have HB0 : Hid (Below w.heap.size w W0) := by show Below _ _ _; rw [← HW0.out]; exact (jlow _ _).drew
        have HI0 : Hid (Vn W0 w.heap.size 33 #[.int .u8 6, .string nm, .slice aa 0 ca, .slice (some ⟨b0, o0, none⟩) 2 cp, .slice ra 0 cr, .int .i64 ln, .int .i64 cl]) := by show Vn _ _ _ _; rw [← HW0.out]; exact HV.out.later ((Below.refl _ _).drew)
        rw [HW0.out]
        clear HW0 HV
        refine wpAnyH_take (i := 0) (v := ?vk6_0_1) rfl (by kernel_rfl) (by kernel_rfl) (by kernel_rfl) (fun _ _ _ h => h) (Or.inl ⟨by rfl, ?yk6_0_1⟩) (HSa.out _ HB0.out HI0.out) ?zk6_0_1
        case yk6_0_1 => (intro w hSw; (try dsimp only at hSw); go_simp; try with_reducible rfl)
        try simp only [List.getElem_toArray, List.getElem_cons_zero, Act.put, List.setIfInBounds_toArray, List.set_cons_zero, List.set_cons_succ]
        refine wpAnyH_take (i := 1) (v := ?vk6_1_2) rfl (by kernel_rfl) (by kernel_rfl) (by kernel_rfl) (fun _ _ _ h => h) (Or.inl ⟨by rfl, ?yk6_1_2⟩) (HSa.out _ HB0.out HI0.out) ?zk6_1_2
        case yk6_1_2 => (intro w hSw; (try dsimp only at hSw); go_simp; try with_reducible rfl)
        try simp only [List.getElem_toArray, List.getElem_cons_succ, List.getElem_cons_zero, Act.put, List.setIfInBounds_toArray, List.set_cons_zero, List.set_cons_succ]
        refine wpAnyH_take (i := 2) (v := ?vk6_2_3) rfl (by kernel_rfl) (by kernel_rfl) (by kernel_rfl) (fun _ _ _ h => h) (Or.inl ⟨by rfl, ?yk6_2_3⟩) (HSa.out _ HB0.out HI0.out) ?zk6_2_3
        case yk6_2_3 => (intro w hSw; (try dsimp only at hSw); go_simp; try with_reducible rfl)
        try simp only [List.getElem_toArray, List.getElem_cons_succ, List.getElem_cons_zero, Act.put, List.setIfInBounds_toArray, List.set_cons_zero, List.set_cons_succ]
        refine wpAnyH_take (i := 3) (v := ?vk6_3_4) rfl (by kernel_rfl) (by kernel_rfl) (by kernel_rfl) (fun _ _ _ h => h) (Or.inl ⟨by rfl, ?yk6_3_4⟩) (HSa.out _ HB0.out HI0.out) ?zk6_3_4
        case yk6_3_4 => (intro w hSw; (try dsimp only at hSw); go_simp; try with_reducible rfl)
        try simp only [List.getElem_toArray, List.getElem_cons_succ, List.getElem_cons_zero, Act.put, List.setIfInBounds_toArray, List.set_cons_zero, List.set_cons_succ]
        refine wpAnyH_take (i := 4) (v := ?vk6_4_5) rfl (by kernel_rfl) (by kernel_rfl) (by kernel_rfl) (fun _ _ _ h => h) (Or.inl ⟨by rfl, ?yk6_4_5⟩) (HSa.out _ HB0.out HI0.out) ?zk6_4_5
        case yk6_4_5 => (intro w hSw; (try dsimp only at hSw); go_simp; try with_reducible rfl)
        try simp only [List.getElem_toArray, List.getElem_cons_succ, List.getElem_cons_zero, Act.put, List.setIfInBounds_toArray, List.set_cons_zero, List.set_cons_succ]
        refine wpAnyH_take (i := 5) (v := ?vk6_5_6) rfl (by kernel_rfl) (by kernel_rfl) (by kernel_rfl) (fun _ _ _ h => h) (Or.inl ⟨by rfl, ?yk6_5_6⟩) (HSa.out _ HB0.out HI0.out) ?zk6_5_6
        case yk6_5_6 => (intro w hSw; (try dsimp only at hSw); go_simp; try with_reducible rfl)
        try simp only [List.getElem_toArray, List.getElem_cons_succ, List.getElem_cons_zero, Act.put, List.setIfInBounds_toArray, List.set_cons_zero, List.set_cons_succ]
        refine wpAnyH_take (i := 9) (v := ?vk6_9_7) rfl (by kernel_rfl) (by kernel_rfl) (by kernel_rfl) (fun _ _ _ h => h) (Or.inl ⟨by rfl, ?yk6_9_7⟩) (HSa.out _ HB0.out HI0.out) ?zk6_9_7
        case yk6_9_7 => (intro w hSw; (try dsimp only at hSw); go_simp; try with_reducible rfl)
        try simp only [List.getElem_toArray, List.getElem_cons_succ, List.getElem_cons_zero, Act.put, List.setIfInBounds_toArray, List.set_cons_zero, List.set_cons_succ]
        refine wpAnyH_take (i := 10) (v := ?vk6_10_8) rfl (by kernel_rfl) (by kernel_rfl) (by kernel_rfl) (fun _ _ _ h => h) (Or.inl ⟨by rfl, ?yk6_10_8⟩) (HSa.out _ HB0.out HI0.out) ?zk6_10_8
        case yk6_10_8 => (intro w hSw; (try dsimp only at hSw); go_simp; try with_reducible rfl)
        try simp only [List.getElem_toArray, List.getElem_cons_succ, List.getElem_cons_zero, Act.put, List.setIfInBounds_toArray, List.set_cons_zero, List.set_cons_succ]
        refine wpAnyH_take (i := 11) (v := ?vk6_11_9) rfl (by kernel_rfl) (by kernel_rfl) (by kernel_rfl) (fun _ _ _ h => h) (Or.inl ⟨by rfl, ?yk6_11_9⟩) (HSa.out _ HB0.out HI0.out) ?zk6_11_9
        case yk6_11_9 => (intro w hSw; (try dsimp only at hSw); go_simp; try with_reducible rfl)
        try simp only [List.getElem_toArray, List.getElem_cons_succ, List.getElem_cons_zero, Act.put, List.setIfInBounds_toArray, List.set_cons_zero, List.set_cons_succ]
        refine wpAnyH_take (i := 12) (v := ?vk6_12_10) rfl (by kernel_rfl) (by kernel_rfl) (by kernel_rfl) (fun _ _ _ h => h) (Or.inl ⟨by rfl, ?yk6_12_10⟩) (HSa.out _ HB0.out HI0.out) ?zk6_12_10
        case yk6_12_10 => (intro w hSw; (try dsimp only at hSw); go_simp; try with_reducible rfl)
        try simp only [List.getElem_toArray, List.getElem_cons_succ, List.getElem_cons_zero, Act.put, List.setIfInBounds_toArray, List.set_cons_zero, List.set_cons_succ]
        refine wpAnyH_ready (rs := [6]) (by kernel_rfl) (by simp) ?_
        refine AllReadyH.cons rfl (fun KK hKK => ?_) AllReadyH.nil
        go_simp
        refine (HC0.out _ HB0.out).mono ?_; rintro e W1 ⟨rfl, hb⟩
        have HB1 := jhid9 (jtwo HB0.out hb)
        have HI1 := jhid9 (HI0.out.later hb)
        clear hb
        refine hKK.out _ _ (HSa.out _ HB1.out HI1.out) (fun _ => ?_)
        clear hKK KK
        try simp only [List.getElem_toArray, List.getElem_cons_succ, List.getElem_cons_zero, Act.put, List.setIfInBounds_toArray, List.set_cons_zero, List.set_cons_succ]
        refine wpAnyH_take (i := 7) (v := ?vk6_7_11) rfl (by kernel_rfl) (by kernel_rfl) (by kernel_rfl) (fun _ _ _ h => h) (Or.inl ⟨by rfl, ?yk6_7_11⟩) (HSa.out _ HB1.out HI1.out) ?zk6_7_11
        case yk6_7_11 => (intro w hSw; (try dsimp only at hSw); go_simp; try with_reducible rfl)
        try simp only [List.getElem_toArray, List.getElem_cons_succ, List.getElem_cons_zero, Act.put, List.setIfInBounds_toArray, List.set_cons_zero, List.set_cons_succ]
        refine wpAnyH_take (i := 8) (v := ?vk6_8_12) rfl (by kernel_rfl) (by kernel_rfl) (by kernel_rfl) (fun _ _ _ h => h) (Or.inl ⟨by rfl, ?yk6_8_12⟩) (HSa.out _ HB1.out HI1.out) ?zk6_8_12
        case yk6_8_12 => (intro w hSw; (try dsimp only at hSw); go_simp; try with_reducible rfl)
        try simp only [List.getElem_toArray, List.getElem_cons_succ, List.getElem_cons_zero, Act.put, List.setIfInBounds_toArray, List.set_cons_zero, List.set_cons_succ]
        refine wpAnyH_ready (rs := [13]) (by kernel_rfl) (by simp) ?_
        refine AllReadyH.cons rfl (fun KK hKK => ?_) AllReadyH.nil
        go_simp
        refine (HC1.out _ HB1.out).mono ?_; rintro e W2 ⟨rfl, hb⟩
        have HB2 := jhid9 (jtwo HB1.out hb)
        have HI2 := jhid9 (HI1.out.later hb)
        clear hb
        refine hKK.out _ _ (HSa.out _ HB2.out HI2.out) (fun _ => ?_)
        clear hKK KK
        try simp only [List.getElem_toArray, List.getElem_cons_succ, List.getElem_cons_zero, Act.put, List.setIfInBounds_toArray, List.set_cons_zero, List.set_cons_succ]
        refine wpAnyH_take (i := 14) (v := ?vk6_14_13) rfl (by kernel_rfl) (by kernel_rfl) (by kernel_rfl) (fun _ _ _ h => h) (Or.inl ⟨by rfl, ?yk6_14_13⟩) (HSa.out _ HB2.out HI2.out) ?zk6_14_13
        case yk6_14_13 => (intro w hSw; (try dsimp only at hSw); go_simp; try with_reducible rfl)
        try simp only [List.getElem_toArray, List.getElem_cons_succ, List.getElem_cons_zero, Act.put, List.setIfInBounds_toArray, List.set_cons_zero, List.set_cons_succ]
        refine wpAnyH_take (i := 15) (v := ?vk6_15_14) rfl (by kernel_rfl) (by kernel_rfl) (by kernel_rfl) (fun _ _ _ h => h) (Or.inl ⟨by rfl, ?yk6_15_14⟩) (HSa.out _ HB2.out HI2.out) ?zk6_15_14
        case yk6_15_14 => (intro w hSw; (try dsimp only at hSw); go_simp; try with_reducible rfl)
        try simp only [List.getElem_toArray, List.getElem_cons_succ, List.getElem_cons_zero, Act.put, List.setIfInBounds_toArray, List.set_cons_zero, List.set_cons_succ]
        refine wpAnyH_take (i := 16) (v := ?vk6_16_15) rfl (by kernel_rfl) (by kernel_rfl) (by kernel_rfl) (fun _ _ _ h => h) (Or.inl ⟨by rfl, ?yk6_16_15⟩) (HSa.out _ HB2.out HI2.out) ?zk6_16_15
        case yk6_16_15 => (intro w hSw; (try dsimp only at hSw); go_simp; try with_reducible rfl)
        try simp only [List.getElem_toArray, List.getElem_cons_succ, List.getElem_cons_zero, Act.put, List.setIfInBounds_toArray, List.set_cons_zero, List.set_cons_succ]
        refine wpAnyH_done (by kernel_rfl) ?_ _
        go_wp2
        go_ret
        exact ⟨rfl, HB2.out⟩
      obtain rfl : k = 7 := by omega
      obtain rfl := HF.out
      clear HF
      have g0 : ¬ 9223372036854775807 < 4 + 3 + x0.size := by obtain ⟨_, y0⟩ := hz0; obtain ⟨_, y1⟩ := hz1; omega
      have g1 : ¬ 9223372036854775807 < 4 + 3 + x0.size + 3 := by obtain ⟨_, y0⟩ := hz0; obtain ⟨_, y1⟩ := hz1; omega
      have g2 : ¬ 9223372036854775807 < 4 + 3 + x0.size + 3 + x1.size := by obtain ⟨_, y0⟩ := hz0; obtain ⟨_, y1⟩ := hz1; omega
      have g3 : ¬ 9223372036854775807 < 4 + 3 + x0.size + 3 + x1.size + 2 := by obtain ⟨_, y0⟩ := hz0; obtain ⟨_, y1⟩ := hz1; omega
      have g4 : ¬ 9223372036854775807 < 7 + x0.size := by obtain ⟨_, y0⟩ := hz0; obtain ⟨_, y1⟩ := hz1; omega
      have g5 : ¬ 9223372036854775807 < 7 + x0.size + 3 := by obtain ⟨_, y0⟩ := hz0; obtain ⟨_, y1⟩ := hz1; omega
      have g6 : ¬ 9223372036854775807 < 7 + x0.size + 3 + x1.size := by obtain ⟨_, y0⟩ := hz0; obtain ⟨_, y1⟩ := hz1; omega
      have g7 : ¬ 9223372036854775807 < 7 + x0.size + 3 + x1.size + 2 := by obtain ⟨_, y0⟩ := hz0; obtain ⟨_, y1⟩ := hz1; omega
      clear hz0 hz1
      have HSa : Hid (∀ w' : World, Below w.heap.size w w' → Vn w' w.heap.size 33 #[.int .u8 7, .string nm, .slice aa 0 ca, .slice (some ⟨b0, o0, none⟩) 2 cp, .slice ra 0 cr, .int .i64 ln, .int .i64 cl] → (fun w' => w'.cell? ⟨w.heap.size, 3, none⟩ = some (.slice (some ⟨b0, o0, none⟩) 2 cp) ∧ w'.cell? ⟨b0, o0, none⟩ = some (.int .u8 (kk0 : Int)) ∧ w'.cell? ⟨b0, o0 + 1, none⟩ = some (.string nx0) ∧ w'.cell? ⟨b0, o0 + 2, none⟩ = some (.slice ab0 na0 ca0) ∧ w'.cell? ⟨b0, o0 + 3, none⟩ = some (.slice pb0 np0 cp0) ∧ w'.cell? ⟨b0, o0 + 4, none⟩ = some (.slice rb0 nr0 cr0) ∧ w'.cell? ⟨b0, o0 + 5, none⟩ = some (.int .i64 ll0) ∧ w'.cell? ⟨b0, o0 + 6, none⟩ = some (.int .i64 cc0) ∧ w'.cell? ⟨b0, o0 + 7, none⟩ = some (.int .u8 (kk1 : Int)) ∧ w'.cell? ⟨b0, o0 + 7 + 1, none⟩ = some (.string nx1) ∧ w'.cell? ⟨b0, o0 + 7 + 2, none⟩ = some (.slice ab1 na1 ca1) ∧ w'.cell? ⟨b0, o0 + 7 + 3, none⟩ = some (.slice pb1 np1 cp1) ∧ w'.cell? ⟨b0, o0 + 7 + 4, none⟩ = some (.slice rb1 nr1 cr1) ∧ w'.cell? ⟨b0, o0 + 7 + 5, none⟩ = some (.int .i64 ll1) ∧ w'.cell? ⟨b0, o0 + 7 + 6, none⟩ = some (.int .i64 cc1)) w') := fun w' hb hv => by
        obtain ⟨a0, a1, a2, a3, a4, a5, a6⟩ := HCl0.out w' hb
        obtain ⟨e0, e1, e2, e3, e4, e5, e6⟩ := HCl1.out w' hb
        rw [Nat.zero_mul, Nat.add_zero] at a0 a1 a2 a3 a4 a5 a6
        rw [Nat.one_mul] at e0 e1 e2 e3 e4 e5 e6
        exact ⟨hv.cell 3 _ rfl, a0, a1, a2, a3, a4, a5, a6, e0, e1, e2, e3, e4, e5, e6⟩
      have hix : ∀ w : World, (Instr.index 90 (.agg #[.string ⟨#[]⟩, .string ⟨#[]⟩, .string ⟨#[114, 101, 101, 100]⟩, .string ⟨#[99, 114, 111, 115, 115]⟩, .string ⟨#[108, 111, 99, 97, 108]⟩, .string ⟨#[112, 121, 114, 97, 109, 105, 100]⟩, .string ⟨#[112, 114, 111, 100, 117, 99, 116]⟩, .string ⟨#[106, 111, 105, 110]⟩, .string ⟨#[109, 97, 116, 114, 105, 120]⟩]) (.int .u8 7)).run Tryd.prog w = .ok (.string ⟨#[106, 111, 105, 110]⟩) w := ix9 7 _ rfl
      go_enter Tryd.func40, Tryd.ntmps40
      go_wp2
      clear c0 c1 c2 c3 c4
      refine wp_region_held (S := fun w' => w'.cell? ⟨w.heap.size, 3, none⟩ = some (.slice (some ⟨b0, o0, none⟩) 2 cp) ∧ w'.cell? ⟨b0, o0, none⟩ = some (.int .u8 (kk0 : Int)) ∧ w'.cell? ⟨b0, o0 + 1, none⟩ = some (.string nx0) ∧ w'.cell? ⟨b0, o0 + 2, none⟩ = some (.slice ab0 na0 ca0) ∧ w'.cell? ⟨b0, o0 + 3, none⟩ = some (.slice pb0 np0 cp0) ∧ w'.cell? ⟨b0, o0 + 4, none⟩ = some (.slice rb0 nr0 cr0) ∧ w'.cell? ⟨b0, o0 + 5, none⟩ = some (.int .i64 ll0) ∧ w'.cell? ⟨b0, o0 + 6, none⟩ = some (.int .i64 cc0) ∧ w'.cell? ⟨b0, o0 + 7, none⟩ = some (.int .u8 (kk1 : Int)) ∧ w'.cell? ⟨b0, o0 + 7 + 1, none⟩ = some (.string nx1) ∧ w'.cell? ⟨b0, o0 + 7 + 2, none⟩ = some (.slice ab1 na1 ca1) ∧ w'.cell? ⟨b0, o0 + 7 + 3, none⟩ = some (.slice pb1 np1 cp1) ∧ w'.cell? ⟨b0, o0 + 7 + 4, none⟩ = some (.slice rb1 nr1 cr1) ∧ w'.cell? ⟨b0, o0 + 7 + 5, none⟩ = some (.int .i64 ll1) ∧ w'.cell? ⟨b0, o0 + 7 + 6, none⟩ = some (.int .i64 cc1)) (by kernel_rfl) ?_
      change wpAnyH _ _ _ _ _ _ _ _ (World.drew _)
      obtain ⟨W0, HW0⟩ : ∃ W0, Hid ((w.alloc (.cells #[.int .u8 7, .string nm, .slice aa 0 ca, .slice (some ⟨b0, o0, none⟩) 2 cp, .slice ra 0 cr, .int .i64 ln, .int .i64 cl] 33)).drew = W0) := ⟨_, rfl⟩
      have HB0 : Hid (Below w.heap.size w W0) := by show Below _ _ _; rw [← HW0.out]; exact (jlow _ _).drew
      have HI0 : Hid (Vn W0 w.heap.size 33 #[.int .u8 7, .string nm, .slice aa 0 ca, .slice (some ⟨b0, o0, none⟩) 2 cp, .slice ra 0 cr, .int .i64 ln, .int .i64 cl]) := by show Vn _ _ _ _; rw [← HW0.out]; exact HV.out.later ((Below.refl _ _).drew)
      rw [HW0.out]
      clear HW0 HV
      refine wpAnyH_take (i := 0) (v := ?vk7_0_16) rfl (by kernel_rfl) (by kernel_rfl) (by kernel_rfl) (fun _ _ _ h => h) (Or.inl ⟨by rfl, ?yk7_0_16⟩) (HSa.out _ HB0.out HI0.out) ?zk7_0_16
      case yk7_0_16 => (intro w hSw; (try dsimp only at hSw); go_simp; try with_reducible rfl)
      try simp only [List.getElem_toArray, List.getElem_cons_zero, Act.put, List.setIfInBounds_toArray, List.set_cons_zero, List.set_cons_succ]
      refine wpAnyH_take (i := 1) (v := ?vk7_1_17) rfl (by kernel_rfl) (by kernel_rfl) (by kernel_rfl) (fun _ _ _ h => h) (Or.inl ⟨by rfl, ?yk7_1_17⟩) (HSa.out _ HB0.out HI0.out) ?zk7_1_17
      case yk7_1_17 => (intro w hSw; (try dsimp only at hSw); go_simp; try with_reducible rfl)
      try simp only [List.getElem_toArray, List.getElem_cons_succ, List.getElem_cons_zero, Act.put, List.setIfInBounds_toArray, List.set_cons_zero, List.set_cons_succ]
      refine wpAnyH_take (i := 2) (v := ?vk7_2_18) rfl (by kernel_rfl) (by kernel_rfl) (by kernel_rfl) (fun _ _ _ h => h) (Or.inl ⟨by rfl, ?yk7_2_18⟩) (HSa.out _ HB0.out HI0.out) ?zk7_2_18
      case yk7_2_18 => (intro w hSw; (try dsimp only at hSw); go_simp; try with_reducible rfl)
      try simp only [List.getElem_toArray, List.getElem_cons_succ, List.getElem_cons_zero, Act.put, List.setIfInBounds_toArray, List.set_cons_zero, List.set_cons_succ]
      refine wpAnyH_take (i := 3) (v := ?vk7_3_19) rfl (by kernel_rfl) (by kernel_rfl) (by kernel_rfl) (fun _ _ _ h => h) (Or.inl ⟨by rfl, ?yk7_3_19⟩) (HSa.out _ HB0.out HI0.out) ?zk7_3_19
      case yk7_3_19 => (intro w hSw; (try dsimp only at hSw); go_simp; try with_reducible rfl)
      try simp only [List.getElem_toArray, List.getElem_cons_succ, List.getElem_cons_zero, Act.put, List.setIfInBounds_toArray, List.set_cons_zero, List.set_cons_succ]
      refine wpAnyH_take (i := 4) (v := ?vk7_4_20) rfl (by kernel_rfl) (by kernel_rfl) (by kernel_rfl) (fun _ _ _ h => h) (Or.inl ⟨by rfl, ?yk7_4_20⟩) (HSa.out _ HB0.out HI0.out) ?zk7_4_20
      case yk7_4_20 => (intro w hSw; (try dsimp only at hSw); go_simp; try with_reducible rfl)
      try simp only [List.getElem_toArray, List.getElem_cons_succ, List.getElem_cons_zero, Act.put, List.setIfInBounds_toArray, List.set_cons_zero, List.set_cons_succ]
      refine wpAnyH_take (i := 5) (v := ?vk7_5_21) rfl (by kernel_rfl) (by kernel_rfl) (by kernel_rfl) (fun _ _ _ h => h) (Or.inl ⟨by rfl, ?yk7_5_21⟩) (HSa.out _ HB0.out HI0.out) ?zk7_5_21
      case yk7_5_21 => (intro w hSw; (try dsimp only at hSw); go_simp; try with_reducible rfl)
      try simp only [List.getElem_toArray, List.getElem_cons_succ, List.getElem_cons_zero, Act.put, List.setIfInBounds_toArray, List.set_cons_zero, List.set_cons_succ]
      refine wpAnyH_take (i := 9) (v := ?vk7_9_22) rfl (by kernel_rfl) (by kernel_rfl) (by kernel_rfl) (fun _ _ _ h => h) (Or.inl ⟨by rfl, ?yk7_9_22⟩) (HSa.out _ HB0.out HI0.out) ?zk7_9_22
      case yk7_9_22 => (intro w hSw; (try dsimp only at hSw); go_simp; try with_reducible rfl)
      try simp only [List.getElem_toArray, List.getElem_cons_succ, List.getElem_cons_zero, Act.put, List.setIfInBounds_toArray, List.set_cons_zero, List.set_cons_succ]
      refine wpAnyH_take (i := 10) (v := ?vk7_10_23) rfl (by kernel_rfl) (by kernel_rfl) (by kernel_rfl) (fun _ _ _ h => h) (Or.inl ⟨by rfl, ?yk7_10_23⟩) (HSa.out _ HB0.out HI0.out) ?zk7_10_23
      case yk7_10_23 => (intro w hSw; (try dsimp only at hSw); go_simp; try with_reducible rfl)
      try simp only [List.getElem_toArray, List.getElem_cons_succ, List.getElem_cons_zero, Act.put, List.setIfInBounds_toArray, List.set_cons_zero, List.set_cons_succ]
      refine wpAnyH_take (i := 11) (v := ?vk7_11_24) rfl (by kernel_rfl) (by kernel_rfl) (by kernel_rfl) (fun _ _ _ h => h) (Or.inl ⟨by rfl, ?yk7_11_24⟩) (HSa.out _ HB0.out HI0.out) ?zk7_11_24
      case yk7_11_24 => (intro w hSw; (try dsimp only at hSw); go_simp; try with_reducible rfl)
      try simp only [List.getElem_toArray, List.getElem_cons_succ, List.getElem_cons_zero, Act.put, List.setIfInBounds_toArray, List.set_cons_zero, List.set_cons_succ]
      refine wpAnyH_take (i := 12) (v := ?vk7_12_25) rfl (by kernel_rfl) (by kernel_rfl) (by kernel_rfl) (fun _ _ _ h => h) (Or.inl ⟨by rfl, ?yk7_12_25⟩) (HSa.out _ HB0.out HI0.out) ?zk7_12_25
      case yk7_12_25 => (intro w hSw; (try dsimp only at hSw); go_simp; try with_reducible rfl)
      try simp only [List.getElem_toArray, List.getElem_cons_succ, List.getElem_cons_zero, Act.put, List.setIfInBounds_toArray, List.set_cons_zero, List.set_cons_succ]
      refine wpAnyH_ready (rs := [6]) (by kernel_rfl) (by simp) ?_
      refine AllReadyH.cons rfl (fun KK hKK => ?_) AllReadyH.nil
      go_simp
      refine (HC0.out _ HB0.out).mono ?_; rintro e W1 ⟨rfl, hb⟩
      have HB1 := jhid9 (jtwo HB0.out hb)
      have HI1 := jhid9 (HI0.out.later hb)
      clear hb
      refine hKK.out _ _ (HSa.out _ HB1.out HI1.out) (fun _ => ?_)
      clear hKK KK
      try simp only [List.getElem_toArray, List.getElem_cons_succ, List.getElem_cons_zero, Act.put, List.setIfInBounds_toArray, List.set_cons_zero, List.set_cons_succ]
      refine wpAnyH_take (i := 7) (v := ?vk7_7_26) rfl (by kernel_rfl) (by kernel_rfl) (by kernel_rfl) (fun _ _ _ h => h) (Or.inl ⟨by rfl, ?yk7_7_26⟩) (HSa.out _ HB1.out HI1.out) ?zk7_7_26
      case yk7_7_26 => (intro w hSw; (try dsimp only at hSw); go_simp; try with_reducible rfl)
      try simp only [List.getElem_toArray, List.getElem_cons_succ, List.getElem_cons_zero, Act.put, List.setIfInBounds_toArray, List.set_cons_zero, List.set_cons_succ]
      refine wpAnyH_take (i := 8) (v := ?vk7_8_27) rfl (by kernel_rfl) (by kernel_rfl) (by kernel_rfl) (fun _ _ _ h => h) (Or.inl ⟨by rfl, ?yk7_8_27⟩) (HSa.out _ HB1.out HI1.out) ?zk7_8_27
      case yk7_8_27 => (intro w hSw; (try dsimp only at hSw); go_simp; try with_reducible rfl)
      try simp only [List.getElem_toArray, List.getElem_cons_succ, List.getElem_cons_zero, Act.put, List.setIfInBounds_toArray, List.set_cons_zero, List.set_cons_succ]
      refine wpAnyH_ready (rs := [13]) (by kernel_rfl) (by simp) ?_
      refine AllReadyH.cons rfl (fun KK hKK => ?_) AllReadyH.nil
      go_simp
      refine (HC1.out _ HB1.out).mono ?_; rintro e W2 ⟨rfl, hb⟩
      have HB2 := jhid9 (jtwo HB1.out hb)
      have HI2 := jhid9 (HI1.out.later hb)
      clear hb
      refine hKK.out _ _ (HSa.out _ HB2.out HI2.out) (fun _ => ?_)
      clear hKK KK
      try simp only [List.getElem_toArray, List.getElem_cons_succ, List.getElem_cons_zero, Act.put, List.setIfInBounds_toArray, List.set_cons_zero, List.set_cons_succ]
      refine wpAnyH_take (i := 14) (v := ?vk7_14_28) rfl (by kernel_rfl) (by kernel_rfl) (by kernel_rfl) (fun _ _ _ h => h) (Or.inl ⟨by rfl, ?yk7_14_28⟩) (HSa.out _ HB2.out HI2.out) ?zk7_14_28
      case yk7_14_28 => (intro w hSw; (try dsimp only at hSw); go_simp; try with_reducible rfl)
      try simp only [List.getElem_toArray, List.getElem_cons_succ, List.getElem_cons_zero, Act.put, List.setIfInBounds_toArray, List.set_cons_zero, List.set_cons_succ]
      refine wpAnyH_take (i := 15) (v := ?vk7_15_29) rfl (by kernel_rfl) (by kernel_rfl) (by kernel_rfl) (fun _ _ _ h => h) (Or.inl ⟨by rfl, ?yk7_15_29⟩) (HSa.out _ HB2.out HI2.out) ?zk7_15_29
      case yk7_15_29 => (intro w hSw; (try dsimp only at hSw); go_simp; try with_reducible rfl)
      try simp only [List.getElem_toArray, List.getElem_cons_succ, List.getElem_cons_zero, Act.put, List.setIfInBounds_toArray, List.set_cons_zero, List.set_cons_succ]
      refine wpAnyH_take (i := 16) (v := ?vk7_16_30) rfl (by kernel_rfl) (by kernel_rfl) (by kernel_rfl) (fun _ _ _ h => h) (Or.inl ⟨by rfl, ?yk7_16_30⟩) (HSa.out _ HB2.out HI2.out) ?zk7_16_30
      case yk7_16_30 => (intro w hSw; (try dsimp only at hSw); go_simp; try with_reducible rfl)
      try simp only [List.getElem_toArray, List.getElem_cons_succ, List.getElem_cons_zero, Act.put, List.setIfInBounds_toArray, List.set_cons_zero, List.set_cons_succ]
      refine wpAnyH_done (by kernel_rfl) ?_ _
      go_wp2
      go_ret
      exact ⟨rfl, HB2.out⟩
    · have HF := jhid9 (HN8.out rfl)
      clear HN1 HN2 HN6 HN8 HSz HI HPp HXp HAr HAa HV c0 c1 c2 c3 c4
      show Calls _ _ #[.agg #[.int .u8 8, .string nm, .slice aa 0 ca, .slice pa 0 cp, .slice ra nr cr, .int .i64 ln, .int .i64 cl]] _ _
      have HV := jhid9 (Vn.new w 33 #[.int .u8 8, .string nm, .slice aa 0 ca, .slice pa 0 cp, .slice ra nr cr, .int .i64 ln, .int .i64 cl])
      have c0 := HV.out.cell 0 _ rfl
      have c1 := HV.out.cell 1 _ rfl
      have c2 := HV.out.cell 2 _ rfl
      have c3 := HV.out.cell 3 _ rfl
      have c4 := HV.out.cell 4 _ rfl
      obtain ⟨X, HXm⟩ : ∃ X, Hid (mrow rl rows nr = X) := ⟨_, rfl⟩
      rw [HXm.out] at HF
      obtain rfl := HF.out
      clear HF
      have hix : ∀ w : World, (Instr.index 90 (.agg #[.string ⟨#[]⟩, .string ⟨#[]⟩, .string ⟨#[114, 101, 101, 100]⟩, .string ⟨#[99, 114, 111, 115, 115]⟩, .string ⟨#[108, 111, 99, 97, 108]⟩, .string ⟨#[112, 121, 114, 97, 109, 105, 100]⟩, .string ⟨#[112, 114, 111, 100, 117, 99, 116]⟩, .string ⟨#[106, 111, 105, 110]⟩, .string ⟨#[109, 97, 116, 114, 105, 120]⟩]) (.int .u8 8)).run Tryd.prog w = .ok (.string ⟨#[109, 97, 116, 114, 105, 120]⟩) w := ix9 8 _ rfl
      go_enter Tryd.func40, Tryd.ntmps40
      go_wp2
      go_loopw [4, 5] (fun vs vi wr => ∃ (i : Nat) (x : ByteArray), i ≤ nr ∧ vi = .int .i64 (i : Int) ∧ vs = .string x ∧ Hid (mrow rl rows i = x) ∧ Vn wr w.heap.size 33 #[.int .u8 8, .string nm, .slice aa 0 ca, .slice pa 0 cp, .slice ra nr cr, .int .i64 ln, .int .i64 cl] ∧ Below w.heap.size w wr) (fun _ vi _ => nr - (intOf vi).toNat)
      case atStart => exact ⟨0, ⟨#[]⟩, by omega, rfl, rfl, rfl, HV.out, jlow _ _⟩
      case round =>
        obtain ⟨i, x, hi, rfl, rfl, Hx, hv, hb⟩ := hrel
        have HB := jhid9 hb
        have HVr := jhid9 hv
        have d4 := hv.cell 4 _ rfl
        clear hv c0 c1 c2 c3 c4
        have hxs : x.size ≤ 704655552 := by rw [← Hx.out]; have := mrow_size rl rows i (fun j hj => ⟨(HRr.out j (by omega)).2.1, (HRr.out j (by omega)).2.2⟩); omega
        by_cases hlt : i < nr
        · have p0 : (0 : Int) ≤ (i : Int) := by omega
          have p1 : (i : Int) < (nr : Int) := by omega
          obtain ⟨b, o, a', c, rfl, hc, hxl⟩ := HXr.out i hlt
          have hcc := cell_kept hc HB.out
          obtain ⟨z, Hz⟩ : ∃ z, Hid (lrow (rows i) (rl i) = z) := ⟨_, rfl⟩
          obtain ⟨_, hrl, hrm⟩ := HRr.out i hlt
          have hz : z.size ≤ 11010240 := by rw [← Hz.out]; have := lrow_size (rows i) (rl i) hrm; have h5 : 172035 * rl i ≤ 172035 * 64 := Nat.mul_le_mul_left _ hrl; omega
          have HC : Hid (∀ w' : World, Below w.heap.size w w' → Calls Tryd.prog 68 #[.slice a' (rl i) c] w' fun e w'' => e = .returned (.string z) ∧ Below w'.heap.size w' w'') := fun w' hb => by rw [← Hz.out]; exact rrow_any w' a' (rl i) c (rows i) (fun d => (hxl d).later hb) hrl hrm (tab_later HTb.out hb)
          have HK : Hid (mrow rl rows (i + 1) = (if i = 0 then ⟨#[]⟩ else x ++ ⟨#[32, 59, 32]⟩) ++ z) := by show _ = _; rw [mrow_succ, Hx.out, Hz.out]
          generalize rl i = m at *
          have g1 : ¬ 9223372036854775807 < x.size + 3 := by omega
          have g2 : ¬ 9223372036854775807 < x.size + 3 + z.size := by omega
          have g3 : ¬ 9223372036854775807 < z.size := by omega
          clear hc hxl hb hrm Hz
          by_cases h0 : i = 0
          · subst h0
            obtain rfl : x = ⟨#[]⟩ := Hx.out.symm
            rw [Nat.add_zero] at hcc
            go_wp2_with (go_at_call 68; refine (HC.out _ HB.out).mono ?_; rintro e w2 ⟨rfl, hb2⟩; have HB2 := jhid9 (jtwo HB.out hb2); have HV2 := jhid9 (HVr.out.later hb2); clear hb2)
            exact ⟨⟨0 + 1, _, by omega, by go_num, rfl, HK, HV2.out, HB2.out⟩, by simp [intOf]; omega⟩
          · have q0 : decide ((0 : Int) < (i : Int)) = true := decide_eq_true (by omega)
            have q1 : decide (0 < i) = true := decide_eq_true (by omega)
            rw [if_neg h0] at HK
            go_wp2_with (go_at_call 68; refine (HC.out _ HB.out).mono ?_; rintro e w2 ⟨rfl, hb2⟩; have HB2 := jhid9 (jtwo HB.out hb2); have HV2 := jhid9 (HVr.out.later hb2); clear hb2)
            exact ⟨⟨i + 1, _, by omega, by go_num, rfl, HK, HV2.out, HB2.out⟩, by simp [intOf]; omega⟩
        · obtain rfl : i = nr := by omega
          obtain rfl : x = X := by rw [← HXm.out]; exact Hx.out.symm
          clear hb
          have g1 : ¬ 9223372036854775807 < 6 + 3 + x.size := by omega
          have g2 : ¬ 9223372036854775807 < 6 + 3 + x.size + 2 := by omega
          have g3 : ¬ 9223372036854775807 < 9 + x.size := by omega
          have g4 : ¬ 9223372036854775807 < 9 + x.size + 2 := by omega
          go_wp2
          go_ret
          exact ⟨rfl, HB.out⟩
end Go.Proofs.YtdimkfcanegahaaDoor
