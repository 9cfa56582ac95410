/-
  Contracts of the program's tree: ExprText; the anchor.
-/
import Derived.Test.YtdimkfcanegahaaDoorDf
namespace Go.Proofs.YtdimkfcanegahaaDoor
open Go.RowKit
/-- The text and the error of an expression. -/
def xE (T : Xt) : Nat := if mayX T = false then 2 else if (xby 16 T).length ≤ 65536 then 0 else 4
def xS (T : Xt) : ByteArray := if mayX T = false then ⟨#[]⟩ else if (xby 16 T).length ≤ 65536 then xtext 16 T else ⟨#[]⟩
theorem xby_text (d : Nat) (T : Xt) : (⟨(xby d T).toArray⟩ : ByteArray) = xtext d T := by
  unfold xby
  rw [Array.toArray_toList]
set_option maxRecDepth 20000 in
set_option maxHeartbeats 4000000 in
theorem txtext (w : World) (T : Xt) (v : Value) (hX : XV w v T) (h9 : Tab9 w) (hw : Wt9 w) (hs : Xs10 w) :
    Calls Tryd.prog 26 #[v] w fun e w' => e = .returned (.tuple #[.string (xS T), .int .i64 (xE T : Nat)]) ∧ Below w.heap.size w w' := by
  have HX := jhid9 hX
  have H9 := jhid9 h9
  have HW := jhid9 hw
  have HS := jhid9 hs
  have HMy : Hid (∀ w' : World, Below w.heap.size w w' → Calls Tryd.prog 12 #[v] w' fun e w'' => e = .returned (.bool (mayX T)) ∧ Below w'.heap.size w' w'') := fun w' hb => tmayx w' T v (HX.out.later hb) (HW.out.later hb)
  obtain ⟨S, HSx⟩ : ∃ S, Hid (xS T = S) := ⟨_, rfl⟩
  obtain ⟨E, HEx⟩ : ∃ E, Hid (xE T = E) := ⟨_, rfl⟩
  rw [HSx.out, HEx.out]
  obtain ⟨⟨a, cap, rfl, _⟩, _⟩ := hX
  clear h9 hw hs
  cases hm : mayX T with
  | false =>
    obtain rfl : E = 2 := by rw [← HEx.out]; unfold xE; rw [hm]; rfl
    obtain rfl : S = ⟨#[]⟩ := by rw [← HSx.out]; unfold xS; rw [hm]; rfl
    rw [hm] at HMy
    clear HX HSx HEx hm H9 HW HS
    generalize T [] = l at *
    obtain ⟨k, n, nm, len, ln, cl⟩ := l
    have hv := Vn.new w 28 #[.int .u8 (k : Int), .int .i64 n, .string nm, .slice a len cap, .int .i64 ln, .int .i64 cl]
    have c0 := hv.cell 0 _ rfl
    have c1 := hv.cell 1 _ rfl
    have c2 := hv.cell 2 _ rfl
    have c3 := hv.cell 3 _ rfl
    have c4 := hv.cell 4 _ rfl
    have c5 := hv.cell 5 _ rfl
    clear hv
    go_enter Tryd.func26, Tryd.ntmps26
    go_wp2_with (go_at_call 12; refine (HMy.out _ (jlow _ _)).mono ?_; rintro e w2 ⟨rfl, hb2⟩; have HB2 := jhid9 (jtwo (jlow _ _) hb2); clear hb2)
    go_ret2
    exact ⟨rfl, HB2.out⟩
  | true =>
    have HM := jhid9 (mayX_mx hm)
    have HF := jhid9 (xtk_f 16 T HM.out)
    have HZ : ∃ _ : Unit, (xtk 16 T).length ≤ 40960 := ⟨(), HM.out.toks⟩
    have HSE : Hid ((if (xby 16 T).length ≤ 65536 then (⟨(xby 16 T).toArray⟩ : ByteArray) else ⟨#[]⟩) = S ∧ (if (xby 16 T).length ≤ 65536 then 0 else 4 : Nat) = E) := by
      refine ⟨?_, ?_⟩
      · rw [← HSx.out, xby_text]; unfold xS; rw [hm]; rfl
      · rw [← HEx.out]; unfold xE; rw [hm]; rfl
    have HPx : Hid (∀ (w0 w' : World) (bc : Nat) (v : Value), XV w0 v T → Xs10 w0 → Lp w0 w' bc [] → Calls Tryd.prog 50 #[.func (.func 60) #[] #[.pointer (some ⟨bc, 0, none⟩)], v] w' fun e w'' => e = .returned (.tuple #[]) ∧ Lp w0 w'' bc (xtk 16 T) ∧ Gw bc w' w'') := fun w0 w' bc v h1 h2 h3 => by
      have := tputx 16 w0 w' bc [] T v (by omega) h1 HM.out h2 h3 ⟨(), by show 0 + _ ≤ _; omega⟩
      simpa using this
    have HTx : Hid (∀ (w0 w' : World) (bc : Nat), Lp w0 w' bc (xtk 16 T) → Tab9 w' → Wt9 w' → Calls Tryd.prog 61 #[.pointer (some ⟨bc, 0, none⟩)] w' fun e w'' => e = .returned (.tuple #[.string S, .int .i64 (E : Int)]) ∧ Below w'.heap.size w' w'') := fun w0 w' bc h1 h2 h3 => by
      have := ttext w0 w' bc _ _ h1 HF (by obtain ⟨_, h⟩ := HZ; omega) h2 h3
      rw [HSE.out.1, HSE.out.2] at this
      exact this
    rw [hm] at HMy
    clear HSx HEx hm HF HZ HSE HM
    generalize xtk 16 T = X at *
    generalize T [] = l at *
    obtain ⟨k, n, nm, len, ln, cl⟩ := l
    have HV := jhid9 (Vn.new w 28 #[.int .u8 (k : Int), .int .i64 n, .string nm, .slice a len cap, .int .i64 ln, .int .i64 cl])
    have c0 := HV.out.cell 0 _ rfl
    have c1 := HV.out.cell 1 _ rfl
    have c2 := HV.out.cell 2 _ rfl
    have c3 := HV.out.cell 3 _ rfl
    have c4 := HV.out.cell 4 _ rfl
    have c5 := HV.out.cell 5 _ rfl
    go_enter Tryd.func26, Tryd.ntmps26
    go_wp2_with (first
      | (go_at_call 12; refine (HMy.out _ (jlow _ _)).mono ?_; rintro e w2 ⟨rfl, hb2⟩; have HB2 := jhid9 (jtwo (jlow _ _) hb2); have HV2 := jhid9 (HV.out.later hb2); clear hb2)
      | (go_at_call 35; refine (tline _).mono ?_; rintro e w3 ⟨bc, rfl, hl3, hb3⟩; have HL3 := jhid9 hl3; have HB3 := jhid9 (jtwo HB2.out hb3); have HV3 := jhid9 (HV2.out.later hb3); clear hb3 hl3; have d0 := HV3.out.cell 0 _ rfl; have d1 := HV3.out.cell 1 _ rfl; have d2 := HV3.out.cell 2 _ rfl; have d3 := HV3.out.cell 3 _ rfl; have d4 := HV3.out.cell 4 _ rfl; have d5 := HV3.out.cell 5 _ rfl)
      | (go_at_call 50; refine (HPx.out w2 _ bc _ (HX.out.later HB2.out) (HS.out.later HB2.out) HL3.out).mono ?_; rintro e w4 ⟨rfl, hl4, hg4⟩; have HL4 := jhid9 hl4; have HB4 := jhid9 (HB2.out.trans (hl4.below.mono HB2.out.size)); clear hl4 hg4)
      | (go_at_call 61; refine (HTx.out w2 _ bc HL4.out (H9.out.later HB4.out) (HW.out.later HB4.out)).mono ?_; rintro e w5 ⟨rfl, hb5⟩; have HB5 := jhid9 (jtwo HB4.out hb5); clear hb5))
    go_ret2
    exact ⟨rfl, HB5.out⟩
end Go.Proofs.YtdimkfcanegahaaDoor
