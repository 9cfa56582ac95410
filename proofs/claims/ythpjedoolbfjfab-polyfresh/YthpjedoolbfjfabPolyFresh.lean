/-
  Proved: for all lists p and q of bytes: what is handed to Trim, Add, Mul, DivMod, GCD, Interpolate and Roots stays as it is, and what they answer is new memory that nobody else has, the spare room too (the rules); no condition.
-/
import Derived.Test.YthpjedoolbfjfabQp
import Derived.WalkKit
import Derived.SizedLaws
import Derived.ProofKit
import Derived.OpenShut
import Derived.ShutString
import Derived.ChangeOld
import Derived.Below
namespace Go.Proofs.Ythpjedoolbfjfab.polyFresh
open Go.ChangeShapes Go.WideShapes Go.ChangeAt Go.RowKit
open Go.ChangeMaps (open_string shut_string)
set_option linter.unusedVariables false

theorem own : ownKnob Try.prog.godebug = none := by kernel_rfl
theorem laidOut : laidOutB Try.prog = true := by kernel_rfl

/-- WHAT THE WALK IS TOLD OF A SLICE OF INTEGERS THAT CAME IN: it is nil; or it leads to a row of 'cap' cells, the numbers 'zs' (the first 'len' are its elements, the rest its spare room), each fitting its kind. -/
def IsRow (k : IntKind) (w : World) (a : Option Addr) (len cap : Nat) (zs : List Int) : Prop :=
  (a = none ∧ len = 0 ∧ cap = 0 ∧ zs = []) ∨
  ∃ x, a = some x ∧ len ≤ cap ∧ cap ≤ 140737488351232 ∧ zs.length = cap ∧ (∀ i, i < zs.length → w.cell? (x.add i) = some (.int k (zs.getD i 0))) ∧ ∀ n ∈ zs, (Lit.int k n).wf = true


/-! ### STEP 1: THE WALK: the Go text returns true, AND WRITES NOTHING THAT WAS THERE: 'Below w.heap.size w w'' (Derived/Below.lean: '.refl', '.alloc', '.drew', '.setCell' at a new block, '.trans'). Open each 'IsRow' by 'rcases' AHEAD of 'go_enter'; part every test ahead of the walk. -/
set_option maxHeartbeats 6400000 in
set_option maxRecDepth 20000 in
theorem walk (a0 : Option Addr) (len0 cap0 : Nat) (z0 : List Int) (a1 : Option Addr) (len1 cap1 : Nat) (z1 : List Int) (w : World) (w0 : IsRow .u8 w a0 len0 cap0 z0) (w1 : IsRow .u8 w a1 len1 cap1 z1) :
    Calls Try.prog 7 #[.slice a0 len0 cap0, .slice a1 len1 cap1] w fun e w' => e = .returned (.bool true) ∧ Below w.heap.size w w' := by
  obtain ⟨f, hA⟩ := lk_of_row w a0 len0 cap0 z0 w0
  obtain ⟨h, hB⟩ := lk_of_row w a1 len1 cap1 z1 w1
  clear w0 w1
  obtain ⟨t1, H1⟩ : ∃ t, Hid (tlen f len0 = t) := ⟨_, rfl⟩
  obtain ⟨t2, H2⟩ : ∃ t, Hid (tlen h len1 = t) := ⟨_, rfl⟩
  have t1n : t1 ≤ len0 := by rw [← H1.out]; exact tlen_le _ _
  have V3 : Hid (∀ i, i < t1 → f i < 256) := fun i hi => hA.1.1 i (by omega)
  go_enter Try.func7, Try.ntmps7
  go_wp2_with (first
    | (go_at_call 20; have _x := hbA; refine (rcopy_lk _ _ _ _ h hB).mono ?_; rintro e wb ⟨sb, kb, rfl, hb, hbB, _⟩; replace ha := ha.later hbB; replace hA := hA.later hbB; replace hB := hB.later hbB; have hw := two_below hbA hbB; have QA : Hid (Lk wb sa len0 ka f) := ha; have QB : Hid (Lk wb sb len1 kb h) := hb)
    | (go_at_call 20; refine (rcopy_lk _ _ _ _ f hA).mono ?_; rintro e wa ⟨sa, ka, rfl, ha, hbA, _⟩; replace hA := hA.later hbA; replace hB := hB.later hbA)
    | (go_at_call 15; refine (ptrim_res _ _ _ _ f ha).mono ?_; rintro e w1 ⟨v1, rfl, r1, b1⟩; have i1 := r1.inb; obtain ⟨p1, m1, q1, rfl⟩ := r1.form; replace ha := ha.later b1; replace hb := hb.later b1; have hbw := b1; have z1 : wb.heap.size ≤ w1.heap.size := b1.size)
    | (go_at_call 8; refine (padd_res _ _ _ _ _ _ _ f h ha hb).mono ?_; rintro e w2 ⟨v2, x2, rfl, r2, b2⟩; have i2 := r2.inb; obtain ⟨p2, m2, q2, rfl⟩ := r2.form; replace r1 := r1.later b2; replace ha := ha.later b2; replace hb := hb.later b2; replace hbw := two_below hbw b2; have z2 : w1.heap.size ≤ w2.heap.size := b2.size)
    | (go_at_call 9; refine (pmul_res _ _ _ _ _ _ _ f h ha hb).mono ?_; rintro e w3 ⟨v3, x3, rfl, r3, b3⟩; have i3 := r3.inb; obtain ⟨p3, m3, q3, rfl⟩ := r3.form; replace r1 := r1.later b3; replace r2 := r2.later b3; replace ha := ha.later b3; replace hb := hb.later b3; replace hbw := two_below hbw b3; have z3 : w2.heap.size ≤ w3.heap.size := b3.size)
    | (go_at_call 13; refine (pdivmod_res _ _ _ _ _ _ _ f h ha hb).mono ?_; rintro e w4 ⟨v4, v5, x4, rfl, r4, r5, ap, b4⟩; have i4 := r4.inb; obtain ⟨p4, m4, q4, rfl⟩ := r4.form; have i5 := r5.inb; obtain ⟨p5, m5, q5, rfl⟩ := r5.form; replace r1 := r1.later b4; replace r2 := r2.later b4; replace r3 := r3.later b4; replace ha := ha.later b4; replace hb := hb.later b4; replace hbw := two_below hbw b4; have z4 : w3.heap.size ≤ w4.heap.size := b4.size)
    | (go_at_call 19; refine (pgcd_res _ _ _ _ _ _ _ f h ha hb).mono ?_; rintro e w5 ⟨v6, x6, rfl, r6, b5⟩; have i6 := r6.inb; obtain ⟨p6, m6, q6, rfl⟩ := r6.form; replace r1 := r1.later b5; replace r2 := r2.later b5; replace r3 := r3.later b5; replace r4 := r4.later b5; replace r5 := r5.later b5; replace ha := ha.later b5; replace hb := hb.later b5; replace hbw := two_below hbw b5; have z5 : w4.heap.size ≤ w5.heap.size := b5.size)
    | (go_at_call 21; refine (pinter_res _ _ _ _ _ _ _ f h ha hb).mono ?_; rintro e w6 ⟨v7, x7, rfl, r7, b6⟩; have i7 := r7.inb; obtain ⟨p7, m7, q7, rfl⟩ := r7.form; replace r1 := r1.later b6; replace r2 := r2.later b6; replace r3 := r3.later b6; replace r4 := r4.later b6; replace r5 := r5.later b6; replace r6 := r6.later b6; replace ha := ha.later b6; replace hb := hb.later b6; replace hbw := two_below hbw b6; have z6 : w5.heap.size ≤ w6.heap.size := b6.size)
    | (go_at_call 18; refine (proots_res _ _ _ _ f ha).mono ?_; rintro e w7 ⟨v8, rfl, r8, b7⟩; have i8 := r8.inb; obtain ⟨p8, m8, q8, rfl⟩ := r8.form; replace r1 := r1.later b7; replace r2 := r2.later b7; replace r3 := r3.later b7; replace r4 := r4.later b7; replace r5 := r5.later b7; replace r6 := r6.later b7; replace r7 := r7.later b7; replace ha := ha.later b7; replace hb := hb.later b7; replace hbw := two_below hbw b7; have z7 : w6.heap.size ≤ w7.heap.size := b7.size))
  have HE : Hid (Eight (w7.alloc (.cells #[(Value.slice p1 m1 q1), (Value.slice p2 m2 q2), (Value.slice p3 m3 q3), (Value.slice p4 m4 q4), (Value.slice p5 m5 q5), (Value.slice p6 m6 q6), (Value.slice p7 m7 q7), (Value.slice p8 m8 q8)] 22)) wb.heap.size (vs8 (Value.slice p1 m1 q1) (Value.slice p2 m2 q2) (Value.slice p3 m3 q3) (Value.slice p4 m4 q4) (Value.slice p5 m5 q5) (Value.slice p6 m6 q6) (Value.slice p7 m7 q7) (Value.slice p8 m8 q8))) :=
    eight (r1.later (alloc_below _ _)) (r2.later (alloc_below _ _)) (r3.later (alloc_below _ _)) (r4.later (alloc_below _ _)) (r5.later (alloc_below _ _)) (r6.later (alloc_below _ _)) (r7.later (alloc_below _ _)) (r8.later (alloc_below _ _)) i1 i2 i3 i4 i5 i6 i7 i8 ap z1 z2 z3 z4 z5 z6
  have HGL : Hid (∀ j, j < 8 → (vs8 (Value.slice p1 m1 q1) (Value.slice p2 m2 q2) (Value.slice p3 m3 q3) (Value.slice p4 m4 q4) (Value.slice p5 m5 q5) (Value.slice p6 m6 q6) (Value.slice p7 m7 q7) (Value.slice p8 m8 q8) j).ownBlock ≠ some w7.heap.size) := by
    have E7 : Eight w7 wb.heap.size (vs8 (Value.slice p1 m1 q1) (Value.slice p2 m2 q2) (Value.slice p3 m3 q3) (Value.slice p4 m4 q4) (Value.slice p5 m5 q5) (Value.slice p6 m6 q6) (Value.slice p7 m7 q7) (Value.slice p8 m8 q8)) := eight r1 r2 r3 r4 r5 r6 r7 r8 i1 i2 i3 i4 i5 i6 i7 i8 ap z1 z2 z3 z4 z5 z6
    intro j hj e
    have := (E7.res j hj).inb _ e
    omega
  have HAW : Hid (Below wb.heap.size wb (w7.alloc (.cells #[(Value.slice p1 m1 q1), (Value.slice p2 m2 q2), (Value.slice p3 m3 q3), (Value.slice p4 m4 q4), (Value.slice p5 m5 q5), (Value.slice p6 m6 q6), (Value.slice p7 m7 q7), (Value.slice p8 m8 q8)] 22))) := two_below hbw (alloc_below _ _)
  have HPA : Hid (Lk wb a0 len0 cap0 f) := hA
  have HPB : Hid (Lk wb a1 len1 cap1 h) := hB
  have HQA : Hid (Lk wb sa len0 ka f) := QA.out
  have HQB : Hid (Lk wb sb len1 kb h) := QB.out
  have HWB : Hid (Below w.heap.size w wb) := hw
  obtain ⟨cs, HCS⟩ : ∃ cs, Hid (#[(Value.slice p1 m1 q1), (Value.slice p2 m2 q2), (Value.slice p3 m3 q3), (Value.slice p4 m4 q4), (Value.slice p5 m5 q5), (Value.slice p6 m6 q6), (Value.slice p7 m7 q7), (Value.slice p8 m8 q8)] = cs) := ⟨_, rfl⟩
  obtain ⟨vv, HVV⟩ : ∃ vv, Hid (vs8 (Value.slice p1 m1 q1) (Value.slice p2 m2 q2) (Value.slice p3 m3 q3) (Value.slice p4 m4 q4) (Value.slice p5 m5 q5) (Value.slice p6 m6 q6) (Value.slice p7 m7 q7) (Value.slice p8 m8 q8) = vv) := ⟨_, rfl⟩
  have HGet : Hid (∀ i, i < 8 → cs[i]? = some (vv i)) := by rw [← HCS.out, ← HVV.out]; exact fun i hi => vs8_get _ _ _ _ _ _ _ _ i hi
  have HBeg : Hid (Sp wb (w7.alloc (.cells #[(Value.slice p1 m1 q1), (Value.slice p2 m2 q2), (Value.slice p3 m3 q3), (Value.slice p4 m4 q4), (Value.slice p5 m5 q5), (Value.slice p6 m6 q6), (Value.slice p7 m7 q7), (Value.slice p8 m8 q8)] 22)) w7.heap.size vv cs 0) := by
    rw [← HCS.out, ← HVV.out]
    exact ⟨fun j _ hj => HE.out.res j hj, new_at w7 _, HAW.out⟩
  have HAp : Hid (∀ i j, i < 8 → j < 8 → i ≠ j → ∀ g, (vv i).ownBlock = some g → (vv j).ownBlock ≠ some g) := by rw [← HVV.out]; exact HE.out.apart
  rw [HVV.out] at HGL
  clear hA hB ha hb hbA hbB hbw hw r1 r2 r3 r4 r5 r6 r7 r8 i1 i2 i3 i4 i5 i6 i7 i8 ap b1 b2 b3 b4 b5 b6 b7 HE HAW
  go_loopw [20] (fun i wr => ∃ k : Nat, k ≤ 8 ∧ i = .int .i64 (k : Int) ∧ Sp wb wr w7.heap.size vv cs k) (fun i _ => 8 - (intOf i).toNat)
  case atStart => exact ⟨0, by omega, rfl, HBeg.out⟩
  case round =>
    clear HBeg
    obtain ⟨k, hk8, rfl, I⟩ := hrel
    have HI : Hid (Sp wb wr w7.heap.size vv cs k) := I
    clear I
    by_cases hlt : k < 8
    · have hc : wr.cell? ⟨w7.heap.size, k, none⟩ = some (vv k) := by rw [cell_of_row _ _ _ _ _ _ HI.out.arr]; exact HGet.out k hlt
      obtain ⟨x, HX⟩ : ∃ x, Hid (vv k = x) := ⟨_, rfl⟩
      rw [HX.out] at hc
      have HR : Hid (Res wr wb.heap.size x) := by rw [← HX.out]; exact HI.out.res k (Nat.le_refl _) hlt
      go_wp2_with (go_at_call 22; refine (spoil_res _ wb.heap.size x _ HR.out).mono ?_; rintro e w9 ⟨rfl, hg9⟩; have HG9 : Hid (wr.grownBy w9 x.ownBlock) := hg9; clear hg9)
      exact ⟨⟨k + 1, by omega, by go_num, sp_next HI.out hlt (by rw [HX.out]; exact HG9.out) HAp.out HGL.out⟩, by simp [intOf]; omega⟩
    · obtain rfl : k = 8 := by omega
      have pA := HPA.out.later HI.out.below
      have pB := HPB.out.later HI.out.below
      have qA := HQA.out.later HI.out.below
      have qB := HQB.out.later HI.out.below
      have hw2 := two_below HWB.out HI.out.below
      obtain ⟨T, HT⟩ : ∃ T, Hid (tlen (pm (zx f len0) (zx h len1)) (t1 + t2) = T) := ⟨_, rfl⟩
      have V2 : Hid (∀ i, i < T → pm (zx f len0) (zx h len1) i < 256) := fun i _ => pm_lt _ pA.1.1 i
      by_cases hbad : 512 < t1 ∨ 512 < t2 ∨ (0 < t1 ∧ 0 < t2 ∧ 513 < t1 + t2)
      · have BAD : Hid (512 < t1 ∨ 512 < t2 ∨ (0 < t1 ∧ 0 < t2 ∧ 513 < t1 + t2)) := hbad
        clear hbad
        go_wp2_with (first
          | (go_at_call 23; refine (rpmul_long _ _ _ _ _ _ _ t1 t2 f h pA pB H1 H2 BAD.out).mono ?_; rintro e wc ⟨rfl, c1⟩; replace pA := pA.later c1; replace pB := pB.later c1; replace qA := qA.later c1; replace qB := qB.later c1; replace hw2 := two_below hw2 c1)
          | (go_at_call 9; refine (pmul_bad _ _ _ _ _ _ _ t1 t2 f h qA qB H1 H2 BAD.out).mono ?_; rintro e wd ⟨rfl, c2⟩; replace pA := pA.later c2; replace pB := pB.later c2; replace qA := qA.later c2; replace qB := qB.later c2; replace hw2 := two_below hw2 c2)
          | (go_at_call 11; refine (anchor_any _).mono ?_; rintro e we ⟨rfl, c3⟩; replace pA := pA.later c3; replace pB := pB.later c3; replace qA := qA.later c3; replace qB := qB.later c3; replace hw2 := two_below hw2 c3)
          | (go_at_call 16; have _x := n3; refine (same_at _ s7 s8 _ _ _ _ hs7 hs8).mono ?_; rintro e w' ⟨rfl, rfl⟩)
          | (go_at_call 16; have _x := n2; refine (same_at _ none none 0 0 0 (fun _ => 0) (Sl.nil _ _ _) (Sl.nil _ _ _)).mono ?_; rintro e w' ⟨rfl, rfl⟩; have n3 := hk8)
          | (go_at_call 16; have _x := n1; refine (same_at _ sb a1 _ _ _ h qB.1 pB.1).mono ?_; rintro e w' ⟨rfl, rfl⟩; have n2 := hk8)
          | (go_at_call 16; refine (same_at _ sa a0 _ _ _ f qA.1 pA.1).mono ?_; rintro e w' ⟨rfl, rfl⟩; have n1 := hk8)
          | (go_at_call 15; refine (ptrim_lk _ _ _ _ t1 f qA H1).mono ?_; rintro e wf ⟨s7, k7, rfl, ho7, c4⟩; have hs7 := ho7.sl V3.out; clear ho7; replace pA := pA.later c4; replace hw2 := two_below hw2 c4)
          | (go_at_call 24; refine (rtrim_at _ _ _ _ t1 f pA H1).mono ?_; rintro e wg ⟨s8, k8, rfl, hl8, c5, _⟩; have hs8 := hl8.1; clear hl8; replace hs7 := hs7.later c5; replace hw2 := two_below hw2 c5))
        go_ret
        exact ⟨rfl, by assumption⟩
      · have OK : Hid (t1 = 0 ∨ t2 = 0 ∨ t1 + t2 ≤ 513) := by show _ ∨ _; omega
        have l1 : t1 ≤ 512 := by omega
        have l2 : t2 ≤ 512 := by omega
        clear hbad
        go_wp2_with (first
          | (go_at_call 23; refine (rpmul_lk _ _ _ _ _ _ _ t1 t2 T f h pA pB H1 H2 l1 l2 OK.out HT).mono ?_; rintro e wc ⟨s3, k3, rfl, hs3, c1⟩; replace pA := pA.later c1; replace pB := pB.later c1; replace qA := qA.later c1; replace qB := qB.later c1; replace hw2 := two_below hw2 c1)
          | (go_at_call 9; refine (pmul_any _ _ _ _ _ _ _ t1 t2 T f h qA qB H1 H2 l1 l2 OK.out HT).mono ?_; rintro e wd ⟨s4, k4, rfl, ho4, c2⟩; have hs4 := ho4.sl V2.out; clear ho4; replace pA := pA.later c2; replace pB := pB.later c2; replace qA := qA.later c2; replace qB := qB.later c2; replace hs3 := hs3.later c2; replace hw2 := two_below hw2 c2)
          | (go_at_call 11; refine (anchor_any _).mono ?_; rintro e we ⟨rfl, c3⟩; replace pA := pA.later c3; replace pB := pB.later c3; replace qA := qA.later c3; replace qB := qB.later c3; replace hs3 := hs3.later c3; replace hs4 := hs4.later c3; replace hw2 := two_below hw2 c3)
          | (go_at_call 16; have _x := n3; refine (same_at _ s7 s8 _ _ _ _ hs7 hs8).mono ?_; rintro e w' ⟨rfl, rfl⟩)
          | (go_at_call 16; have _x := n2; refine (same_at _ s3 s4 _ _ _ _ hs3 hs4).mono ?_; rintro e w' ⟨rfl, rfl⟩; have n3 := hk8)
          | (go_at_call 16; have _x := n1; refine (same_at _ sb a1 _ _ _ h qB.1 pB.1).mono ?_; rintro e w' ⟨rfl, rfl⟩; have n2 := hk8)
          | (go_at_call 16; refine (same_at _ sa a0 _ _ _ f qA.1 pA.1).mono ?_; rintro e w' ⟨rfl, rfl⟩; have n1 := hk8)
          | (go_at_call 15; refine (ptrim_lk _ _ _ _ t1 f qA H1).mono ?_; rintro e wf ⟨s7, k7, rfl, ho7, c4⟩; have hs7 := ho7.sl V3.out; clear ho7; replace pA := pA.later c4; replace hw2 := two_below hw2 c4)
          | (go_at_call 24; refine (rtrim_at _ _ _ _ t1 f pA H1).mono ?_; rintro e wg ⟨s8, k8, rfl, hl8, c5, _⟩; have hs8 := hl8.1; clear hl8; replace hs7 := hs7.later c5; replace hw2 := two_below hw2 c5))
        go_ret
        exact ⟨rfl, by assumption⟩

/-! ### THE ROW's STEP: WRITTEN OUT: LEAVE IT -/
set_option maxRecDepth 100000 in
theorem lifted (os : Os) (started : os.Started) (H : Type) (enc : TypeId × Value → H) :
    ReturnsInHanded {} Try.checked os 7 .any (Rows.polyFreshSpec.pre6 enc Try.prog Try.f7 Rows.polyFreshRow.domain false) (Rows.polyFreshSpec.post enc Try.prog Try.f7 false true false false) := by
  refine returnsInHanded_of_change_sized (C := Try.checked) own started (by kernel_rfl) Try.func7
    (ChangeSpec.witness6 (enc := enc) (C := Try.checked) false ⟨#[], #[.slice none 0 0, .slice none 0 0], []⟩ 8 (by kernel_rfl) (by kernel_rfl) (by kernel_rfl) (by kernel_rfl)) ?_
  intro W base args ds gs before hval0 hW hcnd hsz0 _
  have hsz : (DataW.weightsEach Try.prog (Try.f7.params.toList ++ Rows.polyFreshSpec.plain.varTypes Try.prog) (ds ++ gs)).all (· ≤ reachBytes) = true := hsz0
  clear hsz0
  have hval : ∀ (j : Nat) t v, Try.f7.params[j]? = some t → args[j]? = some v → Value.okWide Try.prog W .any base t v := hval0
  have hW' := hW
  obtain ⟨p, q, hA0, hV, rfl, hfz, hnd⟩ := hW
  have hA : DataW.TrodAll enc Try.prog W 0 (fun _ => true) true Try.f7.params.toList args.toList ds p := hA0
  rw [Try.params7] at hA hval hsz
  obtain ⟨v0, vs0, d0, ds0, p0, q0, hargs, rfl, rfl, h0, r0⟩ := trodAll_cons hA
  obtain ⟨v1, vs1, d1, ds1, p1, q1, rfl, rfl, rfl, h1, r1⟩ := trodAll_cons r0
  obtain ⟨rfl, rfl, rfl⟩ := trodAll_nil r1
  obtain rfl : args = #[v0, v1] := by cases args; simp_all
  obtain ⟨rfl, rfl⟩ := trodVars_none hV
  obtain ⟨a0, len0, cap0, rfl⟩ := okWide_slice Try.underlying22 (hval 0 22 v0 rfl rfl)
  have k0 := h0
  have lt0 : ∀ x ∈ p0, x.block < W.heap.size := by obtain ⟨m, hm⟩ := k0; exact DataW.trod_lt m _ _ _ hm
  obtain ⟨z0, w0⟩ : ∃ zs, IsRow .u8 W a0 len0 cap0 zs := by
    obtain ⟨fuel, hf⟩ := h0
    rcases open_ints Try.underlying22 Try.underlying5 (by kernel_rfl) hf with ⟨hcs, _⟩ | ⟨x, l, c, zs, hcs, _, hl, hm, hz, hxx, hcell, hwz⟩
    · simp [Value.cells] at hcs
      obtain ⟨rfl, rfl, rfl⟩ := hcs
      exact ⟨[], .inl ⟨rfl, rfl, rfl, rfl⟩⟩
    · simp [Value.cells] at hcs
      obtain ⟨rfl, rfl, rfl⟩ := hcs
      have hd := congrArg Prod.fst hxx
      have hs := sized_slice hsz (j := 0) (t := 22) (e := 5) rfl (congrArg some hd) Try.underlying22
      rw [show Try.prog.bytesOf 5 = 1 from by kernel_rfl] at hs
      have hzl : zs.length = cap0 := by simpa using hz
      simp only [lits, List.length_map, List.length_take, List.length_drop, reachBytes] at hs
      exact ⟨zs, .inr ⟨_, rfl, hl, by omega, by simpa using hz, hcell, hwz⟩⟩
  obtain ⟨a1, len1, cap1, rfl⟩ := okWide_slice Try.underlying22 (hval 1 22 v1 rfl rfl)
  have k1 := h1
  have lt1 : ∀ x ∈ p1, x.block < W.heap.size := by obtain ⟨m, hm⟩ := k1; exact DataW.trod_lt m _ _ _ hm
  obtain ⟨z1, w1⟩ : ∃ zs, IsRow .u8 W a1 len1 cap1 zs := by
    obtain ⟨fuel, hf⟩ := h1
    rcases open_ints Try.underlying22 Try.underlying5 (by kernel_rfl) hf with ⟨hcs, _⟩ | ⟨x, l, c, zs, hcs, _, hl, hm, hz, hxx, hcell, hwz⟩
    · simp [Value.cells] at hcs
      obtain ⟨rfl, rfl, rfl⟩ := hcs
      exact ⟨[], .inl ⟨rfl, rfl, rfl, rfl⟩⟩
    · simp [Value.cells] at hcs
      obtain ⟨rfl, rfl, rfl⟩ := hcs
      have hd := congrArg Prod.fst hxx
      have hs := sized_slice hsz (j := 1) (t := 22) (e := 5) rfl (congrArg some hd) Try.underlying22
      rw [show Try.prog.bytesOf 5 = 1 from by kernel_rfl] at hs
      have hzl : zs.length = cap1 := by simpa using hz
      simp only [lits, List.length_map, List.length_take, List.length_drop, reachBytes] at hs
      exact ⟨zs, .inr ⟨_, rfl, hl, by omega, by simpa using hz, hcell, hwz⟩⟩
  clear hA0 hval0
  refine (walk a0 len0 cap0 z0 a1 len1 cap1 z1 W w0 w1).mono fun e W' ⟨he, bel⟩ => ?_
  subst he
  exact ⟨_, rfl, _, _, _, [], _, [], hW', trodAll_mk1 (shut_bool Try.underlying4 _), (trodAll_cons_mk (Below.trod laidOut (by kernel_rfl) (of_decide_eq_true (by kernel_rfl)) k0 bel lt0) (trodAll_cons_mk (Below.trod laidOut (by kernel_rfl) (of_decide_eq_true (by kernel_rfl)) k1 bel lt1) trodAll_mk0)), rfl, bel.frame _, fun h => by cases h⟩

theorem over : Rows.polyFreshRow.holds Try.pinned (OpenSpec.ofChange Rows.polyFreshSpec) :=
  OpenClaim.holds_of_wide 7 Try.f7 rfl rfl rfl rfl rfl rfl rfl ⟨rfl, rfl, rfl, rfl, rfl⟩ rfl rfl rfl rfl rfl (by kernel_rfl) Try.func7 (by kernel_rfl)
    (of_decide_eq_true (by kernel_rfl)) (by unfold Func.isWrapper; first | (rw [if_pos (by decide +kernel)]; kernel_rfl) | (rw [if_neg (by decide +kernel)]; exact ⟨rfl, rfl⟩))
    (fun os started H enc _ => lifted os started H enc)

/-- ████ THE STATEMENT ████ -/
theorem proved : Rows.PolyFreshSaid := over
#print axioms proved
end Go.Proofs.Ythpjedoolbfjfab.polyFresh
