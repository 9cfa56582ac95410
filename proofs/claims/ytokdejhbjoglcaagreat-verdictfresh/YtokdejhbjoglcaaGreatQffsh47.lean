/-
  A decoding matrix is told by what it makes: there is one alone.
  The reference's Decode: what holds row by row.
  The reference's Decode.
-/
import Derived.Test.YtokdejhbjoglcaaGreatQffsh00
import Derived.Test.YtokdejhbjoglcaaGreatQffsh44
import Derived.Test.YtokdejhbjoglcaaGreatQffsh25
import Derived.Test.YtokdejhbjoglcaaGreatQffsh24
import Derived.Test.YtokdejhbjoglcaaGreatQffsh43
import Derived.Test.YtokdejhbjoglcaaGreatQffsh42
import Derived.Test.YtokdejhbjoglcaaGreatQffsh07
set_option maxRecDepth 100000
set_option maxHeartbeats 16000000
namespace Go.Proofs.YtokdejhbjoglcaaGreat
open Go.RowKit Go.Shelf
theorem xs_lf (p : Nat) (f : Nat → Nat) : ∀ R, (∀ j, j < R → ¬ bt p j = 1 → f j = 0) → xs f R = xs (fun t => f (lf p R t)) (cn p R) := by
 intro R
 induction R with
 | zero => intro _; rfl
 | succ R ih =>
  intro h
  have ih2 := ih (fun j hj => h j (by omega))
  show xs f R ^^^ f R = _
  by_cases hb : bt p R = 1
  ·rw [qat, hb]
   show _ = xs (fun t => f (lf p (R + 1) t)) (cn p R) ^^^ f (lf p (R + 1) (cn p R))
   rw [qki hb, if_pos rfl, ih2]
   congr 1
   exact qa8 (fun t ht => by rw [qki hb, if_neg (by omega)])
  ·have h0 := qb6 hb
   rw [qat, h0, h R (by omega) hb, Nat.xor_zero, ih2]
   exact qa8 (fun t _ => by rw [qg5 h0])
theorem DecP.one {F O O' : Nat → Nat} {p r c n : Nat} (hF : ∀ i, i < n → F i < 256) (R : Rt r c n) (hcn : cn p r = c) (hf : FreeS (m2 F r c) r p) (h : DecP F O p r c) (h' : DecP F O' p r c) : ∀ q, q < c * r → O q = O' q := by
 have hM := qao hF R
 have hI : Ind (fun t => m2 F r c (lf p r t)) c := by
  have hk := (qfi hM).2 hf
  rw [hcn] at hk
  exact hk.ind (fun _ j => hM _ j)
 have key : ∀ i j, i < c → j < r → O (i * r + j) = O' (i * r + j) := fun i j hi hj => by
  by_cases hb : bt p j = 1
  ·have e1 := qao h.el (⟨R.c64, R.r64, rfl⟩ : Rt c r (c * r))
   have e2 := qao h'.el (⟨R.c64, R.r64, rfl⟩ : Rt c r (c * r))
   have hz := hI (fun t => m2 O c r i (lf p r t) ^^^ m2 O' c r i (lf p r t)) (fun t => qb7 _ _ (e1 i _) (e2 i _)) (fun l => by
    have s1 : lc (fun j => m2 O c r i j ^^^ m2 O' c r i j) (m2 F r c) r l = 0 := by
     rw [qjc (e1 i) (e2 i)]
     by_cases hl : l < c
     ·have a1 : lc (m2 O c r i) (m2 F r c) r l = dl i l := by
       rw [← h.id i l hi hl]
       exact qam (fun t ht => qaf O hi ht) (fun _ _ => rfl)
      have a2 : lc (m2 O' c r i) (m2 F r c) r l = dl i l := by
       rw [← h'.id i l hi hl]
       exact qam (fun t ht => qaf O' hi ht) (fun _ _ => rfl)
      rw [a1, a2, Nat.xor_self]
     ·have z : ∀ a : Nat → Nat, lc a (m2 F r c) r l = 0 := fun a => qad (fun t _ => by rw [qac F (by omega), qa7])
      rw [z, z]
      rfl
    have s2 := xs_lf p (fun j => fm (m2 O c r i j ^^^ m2 O' c r i j) (m2 F r c j l)) r (fun j hj hbj => by
     show fm (m2 O c r i j ^^^ m2 O' c r i j) _ = 0
     rw [qaf O hi hj, qaf O' hi hj, h.off i j hi hj hbj, h'.off i j hi hj hbj]
     exact qag _)
    rw [hcn] at s2
    exact s2.symm.trans s1)
   obtain ⟨h1, h2⟩ := qit hj hb
   have h3 := hz (cn p j) (by omega)
   rw [h2, qaf O hi hj, qaf O' hi hj] at h3
   have h4 := congrArg (· ^^^ O' (i * r + j)) h3
   simpa [Nat.xor_assoc] using h4
  ·rw [h.off i j hi hj hb, h'.off i j hi hj hb]
 intro q hq
 have hr : 0 < r := by
  apply Nat.pos_of_ne_zero
  intro e
  subst e
  omega
 have hi : q / r < c := Nat.div_lt_of_lt_mul (by rw [Nat.mul_comm]; exact hq)
 have h := key (q / r) (q % r) hi (Nat.mod_lt _ hr)
 rwa [show q / r * r + q % r = q by rw [Nat.mul_comm]; exact Nat.div_add_mod q r] at h
open Go.RowKit Go.Shelf
/-- The row i of D is as it must be. -/
def RowOk (F D : Nat → Nat) (p r c i : Nat) : Prop := (∀ j, j < r → ¬ bt p j = 1 → D (i * r + j) = 0) ∧ ∀ l, l < c → lc (fun j => D (i * r + j)) (m2 F r c) r l = dl i l
/-- The rows below i are done, those from i on are noughts. -/
structure DecI (F D : Nat → Nat) (p r c i : Nat) : Prop where
 el : ∀ q, q < c * r → D q < 256
 done : ∀ u, u < i → RowOk F D p r c u
 rest : ∀ u j, i ≤ u → u < c → j < r → D (u * r + j) = 0
/-- The row i has the first k factors. -/
structure DecK (F D x : Nat → Nat) (p r c i k : Nat) : Prop where
 el : ∀ q, q < c * r → D q < 256
 done : ∀ u, u < i → RowOk F D p r c u
 rest : ∀ u j, i < u → u < c → j < r → D (u * r + j) = 0
 row : ∀ j, j < r → D (i * r + j) = if bt p j = 1 ∧ cn p j < k then x (cn p j) else 0
theorem DecI.start (F : Nat → Nat) (p r c : Nat) : DecI F (fun _ => 0) p r c 0 := ⟨fun _ _ => Nat.zero_lt_succ 255, fun _ hu => absurd hu (Nat.not_lt_zero _), fun _ _ _ _ _ => rfl⟩
theorem DecI.inner {F D x : Nat → Nat} {p r c i : Nat} (h : DecI F D p r c i) (hi : i < c) : DecK F D x p r c i 0 :=
 ⟨h.el, h.done, fun u j hu hc hj => h.rest u j (by omega) hc hj, fun j hj => by rw [if_neg (fun hh => Nat.not_lt_zero _ hh.2)]; exact h.rest i j (Nat.le_refl _) hi hj⟩
theorem qet {u i j t r : Nat} (hj : j < r) (ht : t < r) (hne : u ≠ i) : u * r + j ≠ i * r + t := fun e => hne (by
 have h1 := congrArg (· / r) e
 rwa [(qes hj).1, (qes ht).1] at h1)
theorem DecK.put {F D x : Nat → Nat} {p r c i k v : Nat} (h : DecK F D x p r c i k) (hk : k < cn p r) (hv : v = x k) (hx : x k < 256) : DecK F (fun q => if q = i * r + lf p r k then v else D q) x p r c i (k + 1) := by
 obtain ⟨z1, z2, z3⟩ := qah hk
 refine ⟨fun q hq => ?_, fun u hu => ?_, fun u j hu hc hj => ?_, fun j hj => ?_⟩
 ·show (if q = i * r + lf p r k then v else D q) < 256
  split
  ·rw [hv]; exact hx
  ·exact h.el q hq
 ·obtain ⟨h1, h2⟩ := h.done u hu
  have e : ∀ j, j < r → (if u * r + j = i * r + lf p r k then v else D (u * r + j)) = D (u * r + j) := fun j hj => if_neg (qet hj z1 (by omega))
  refine ⟨fun j hj hb => (e j hj).trans (h1 j hj hb), fun l hl => ?_⟩
  rw [← h2 l hl]
  exact qam (fun j hj => e j hj) (fun _ _ => rfl)
 ·show (if u * r + j = i * r + lf p r k then v else D (u * r + j)) = 0
  rw [if_neg (qet hj z1 (by omega))]
  exact h.rest u j hu hc hj
 ·show (if i * r + j = i * r + lf p r k then v else D (i * r + j)) = _
  by_cases e : j = lf p r k
  ·subst e
   rw [if_pos rfl, if_pos ⟨z2, by omega⟩, z3, hv]
  ·rw [if_neg (fun hh => e (by omega)), h.row j hj]
   by_cases hb : bt p j = 1
   ·have hjc := (qit hj hb).2
    have hne : cn p j ≠ k := fun e2 => e (by rw [← hjc, e2])
    by_cases hlt : cn p j < k
    ·rw [if_pos ⟨hb, hlt⟩, if_pos ⟨hb, by omega⟩]
    ·rw [if_neg (fun hh => hlt hh.2), if_neg (fun hh => hlt (by omega))]
   ·rw [if_neg (fun hh => hb hh.1), if_neg (fun hh => hb hh.1)]
theorem DecK.next {F D x : Nat → Nat} {p r c n i : Nat} (h : DecK F D x p r c i c) (R : Rt r c n) (hF : ∀ i, i < n → F i < 256) (hcn : cn p r = c) (hi : i < c) (hx : CmbA (pkf F (lf p r) c) (uj i) c c x) : DecI F D p r c (i + 1) := by
 refine ⟨h.el, fun u hu => ?_, fun u j hu hc hj => h.rest u j (by omega) hc hj⟩
 by_cases e : u = i
 ·subst e
  have hM := qao hF R
  have hrow : ∀ j, j < r → D (u * r + j) = if bt p j = 1 then x (cn p j) else 0 := fun j hj => by
   rw [h.row j hj]
   by_cases hb : bt p j = 1
   ·have := (qit hj hb).1
    rw [if_pos ⟨hb, by omega⟩, if_pos hb]
   ·rw [if_neg (fun hh => hb hh.1), if_neg hb]
  refine ⟨fun j hj hb => by rw [hrow j hj, if_neg hb], fun l hl => ?_⟩
  have s := xs_lf p (fun j => fm (D (u * r + j)) (m2 F r c j l)) r (fun j hj hb => by
   show fm (D (u * r + j)) _ = 0
   rw [hrow j hj, if_neg hb, qag])
  rw [hcn] at s
  show xs (fun j => fm (D (u * r + j)) (m2 F r c j l)) r = _
  rw [s]
  have h2 := hx.2 l
  unfold ext0 at h2
  rw [if_pos hl] at h2
  have h3 : xs (fun t => fm (D (u * r + lf p r t)) (m2 F r c (lf p r t) l)) c = lc x (m2 (pkf F (lf p r) c) c c) c l := qa8 (fun t ht => by
   obtain ⟨z1, z2, z3⟩ := qah (s := p) (i := r) (t := t) (by omega)
   rw [hrow _ z1, if_pos z2, z3, qaf _ ht hl, qch F _ c t l hl, qaf F z1 hl])
  rw [h3, ← h2]
  unfold uj dl
  rfl
 ·exact h.done u (by omega)
theorem DecI.dec {F D : Nat → Nat} {p r c : Nat} (h : DecI F D p r c c) : DecP F D p r c := ⟨h.el, fun i j hi hj hb => (h.done i hi).1 j hj hb, fun i l hi hl => (h.done i hi).2 l hl⟩
theorem unit_spn {F : Nat → Nat} {p r c n i : Nat} (R : Rt r c n) (hF : ∀ i, i < n → F i < 256) (hcn : cn p r = c) (hf : FreeS (m2 F r c) r p) (hi : i < c) : Spn (m2 (pkf F (lf p r) c) c c) c (ext0 (uj i) c) := by
 have Rc : Rt c c (c * c) := ⟨R.c64, R.c64, rfl⟩
 have hPe := qao (qd5 hF R hcn) Rc
 obtain ⟨A, hA, h1, _⟩ := qke hPe (fun i j _ hj => qac _ hj) (qfm hF R hcn hf)
 refine ⟨A i, hA i, fun l => ?_⟩
 unfold ext0
 by_cases hl : l < c
 ·rw [if_pos hl]
  have := h1 i l hi hl
  unfold pr at this
  rw [this]
  unfold uj dl
  rfl
 ·rw [if_neg hl]
  exact (qad (fun t _ => by rw [qac _ (by omega), qa7])).symm
/-- A list of numbers that lies apart from the block that is written. -/
theorem qlc {w2 w4 W : World} {gz c : Nat} {xs : Option Addr} {z : Nat → Nat} (h : Il w2 xs c (fun i => (z i : Int))) (hz : w2.heap.size ≤ gz) (hb : Below w2.heap.size w2 w4) (hg : w4.grownBy W (some gz)) : Il W xs c (fun i => (z i : Int)) := fun i hi => by
 obtain ⟨x, o, e, hc⟩ := h i hi
 have hlt : x < w2.heap.size := qap hc
 refine ⟨x, o, e, ?_⟩
 rw [World.cell?_of_block (a := ⟨x, o + i, none⟩) (hg.block x (by have := hb.size; omega) (fun e => by have h := Option.some.inj e; omega)), hb.cell (p := ⟨x, o + i, none⟩) hlt]
 exact hc
theorem qld {w3 w4 W : World} {gz n k : Nat} {s : Option Addr} {F : Nat → Nat} (h : Mt w3 s n k F) (hz : w3.heap.size ≤ gz) (hb : Below w3.heap.size w3 w4) (hg : w4.grownBy W (some gz)) : Mt W s n k F :=
 (h.later hb).kept hg (fun hn x hx e => by
  obtain ⟨b, o, e2, hc⟩ := h.sl.2 0 hn
  rw [e2] at hx
  cases hx
  have : b < w3.heap.size := qap hc
  have e3 : b = gz := e
  omega)
open Go.RowKit Go.Shelf
theorem qj0 (w : World) (r c E : Int) (n k s : Nat) (a : Option Addr)
  (HS : Hid (∀ w' : World, Below w.heap.size w w' → Calls Tryz.prog 16 #[mv r c a n k, .int .u64 (s : Int)] w' fun e w'' => e = .returned (.tuple #[.int .u64 0, .bool false, .int .i64 E]) ∧ Below w'.heap.size w' w'')) :
  Calls Tryz.prog 6 #[mv r c a n k, .int .u64 (s : Int)] w fun e w' => e = .returned (.tuple #[mv 0 0 none 0 0, .bool false, .int .i64 E]) ∧ Below w.heap.size w w' := by
 obtain ⟨wb, HW, HX⟩ : ∃ wb, Hid (wb = (w.alloc (.cells #[.int .i64 r, .int .i64 c, .slice a n k] 24)).alloc (.cells #[.int .i64 0, .int .i64 0, .slice none 0 0] 24)) ∧ Hid (Box2 w wb r c n k a) := ⟨_, rfl, box2 w r c n k a⟩
 go_enter Tryz.func6, Tryz.ntmps6
 go_wp2_with (first
  | (go_at_call 16; rw [← HW.out]; refine (HS.out _ HX.out.below).mono ?_; rintro e w1 ⟨rfl, hb⟩; have HB1 : Hid (Below wb.heap.size wb w1) := hb; clear hb)
  | (refine qa2 rfl _ _ rfl (w.heap.size + 1) _ _ _ (.int .i64 0) (.int .i64 0) (.slice none 0 0) rfl rfl (HX.out.vr.later HB1.out) rfl rfl rfl ?_; intro w7 HV7 HG7))
 have d0 := HV7.out.c0
 have d1 := HV7.out.c1
 have d2 := HV7.out.c2
 refine bodyPost_ret (v := .tuple #[mv 0 0 none 0 0, .bool false, .int .i64 E]) (by simp [results, Tryz.results6, go_sem, d0, d1, d2, mv]) rfl ?_
 exact ⟨rfl, qa4 (qa0 HX.out.below HB1.out) HG7.out (by omega)⟩
theorem qj1 (w : World) (r c n k s p L : Nat) (a : Option Addr) (F : Nat → Nat) (ha : Mt w a n k F) (R : Rt r c n) (hp6 : p < 2 ^ r) (hcn : cn p r = c) (hf : FreeS (m2 F r c) r p) (hc1 : 1 ≤ c) (HL : Hid (c * r = L))
  (HS : Hid (∀ w' : World, Below w.heap.size w w' → Calls Tryz.prog 16 #[mv r c a n k, .int .u64 (s : Int)] w' fun e w'' => e = .returned (.tuple #[.int .u64 (p : Int), .bool true, .int .i64 0]) ∧ Below w'.heap.size w' w'')) :
  Calls Tryz.prog 6 #[mv r c a n k, .int .u64 (s : Int)] w fun e w' => ∃ g O, e = .returned (.tuple #[mv c r (some ⟨g, 0, none⟩) L L, .bool true, .int .i64 0]) ∧ RowAt w' g 5 L O ∧ w.heap.size ≤ g ∧ DecP F O p r c ∧ Below w.heap.size w w' := by
 obtain ⟨wb, HW, HX⟩ : ∃ wb, Hid (wb = (w.alloc (.cells #[.int .i64 (r : Int), .int .i64 (c : Int), .slice a n k] 24)).alloc (.cells #[.int .i64 0, .int .i64 0, .slice none 0 0] 24)) ∧ Hid (Box2 w wb r c n k a) := ⟨_, rfl, box2 w r c n k a⟩
 obtain ⟨i0, hi0, hz0, hz1, hz2⟩ := info_parts qcs
 have HA : Hid (Mt w a n k F) := ha
 have HR : Hid (Rt r c n) := R
 have hr := R.r64
 have hc := R.c64
 have hml : c ≤ maxLen := by unfold maxLen; omega
 obtain ⟨N, HN⟩ : ∃ N, Hid (c * c = N) := ⟨_, rfl⟩
 have RN : Hid (Rt c c N) := ⟨hc, hc, HN.out⟩
 have RL : Hid (Rt c r L) := ⟨hc, hr, HL.out⟩
 have hL : L ≤ 4096 := by rw [← HL.out]; exact Nat.mul_le_mul hc hr
 obtain ⟨z, HLs, Hz, HPe, HSp, HZl, HNx⟩ : ∃ z : Nat → Nat, Hid (∀ w' : World, Calls Tryz.prog 17 #[.int .u64 (p : Int)] w' fun e w'' => ∃ x d, e = .returned (.slice x c d) ∧ Il w'' x c (fun i => (z i : Int)) ∧ Below w'.heap.size w' w'') ∧ Hid (∀ i, i < c → z i < r) ∧ Hid (∀ q, q < N → pkf F z c q < 256) ∧ Hid (∀ i, i < c → Spn (m2 (pkf F z c) c c) c (ext0 (uj i) c)) ∧ Hid (lf p r = z) ∧ Hid (∀ D x i, i < c → CmbA (pkf F z c) (uj i) c c x → DecK F D x p r c i c → DecI F D p r c (i + 1)) := by
  refine ⟨lf p r, fun w' => (qhv p w' (qb5 hr hp6)).mono (fun e w'' hh => ?_), fun i hi => (qah (by omega)).1, ?_, fun i hi => unit_spn R ha.sl.1 hcn hf hi, rfl, fun D x i hi hx h => h.next R ha.sl.1 hcn hi hx⟩
  ·obtain ⟨v, he, ho, hbl⟩ := hh
   rw [qc0 hr hp6, hcn] at ho
   have ho2 := ho.congr (fun i _ => qep hr hp6 i)
   obtain ⟨x, d, rfl, _⟩ := ho2.form
   exact ⟨x, d, he, qfj ho2.jl, hbl⟩
  ·rw [← HN.out]; exact qd5 ha.sl.1 R hcn
 have Hcn := qal hcn
 have hwb : w.heap.size + 1 < wb.heap.size := HX.out.vr.lt
 clear ha R hp6 hcn hf
 go_enter Tryz.func6, Tryz.ntmps6
 go_wp2_with (first
  | (go_at_call 16; rw [← HW.out]; refine (HS.out _ HX.out.below).mono ?_; rintro e w1 ⟨rfl, hb⟩; have HB1 : Hid (Below wb.heap.size wb w1) := hb; clear hb)
  | (go_at_call 17; refine (HLs.out _).mono ?_; rintro e w2 ⟨xs, dx, rfl, hi2, hb⟩; have HB2 : Hid (Below wb.heap.size wb w2) := qa0 HB1.out hb; have HI2 : Hid (Il w2 xs c (fun i => (z i : Int))) := hi2; have a0 := (HX.out.va.later HB2.out).c0; have a1 := (HX.out.va.later HB2.out).c1; have a2 := (HX.out.va.later HB2.out).c2; clear hi2 hb)
  | (go_at_call 18; refine (qbo _ r c n k c dx N a xs F z (HA.out.later (qa0 HX.out.below HB2.out)).sl HR.out HI2.out Hz.out hc HN).mono ?_; rintro e w3 ⟨s3, d3, rfl, ho3, hb⟩; have HB23 : Hid (Below w2.heap.size w2 w3) := hb; have HB3 : Hid (Below wb.heap.size wb w3) := qa0 HB2.out hb; have HM3 : Hid (Mt w3 s3 N d3 (pkf F z c)) := ql6 ho3 HPe.out; have HV3 : Hid (Vr (w3.alloc (.cells #[.int .i64 (c : Int), .int .i64 (c : Int), .slice s3 N d3] 24)) w3.heap.size (.int .i64 (c : Int)) (.int .i64 (c : Int)) (.slice s3 N d3)) := Vr.new _ _ _ _; have HX3 : Hid (Vr (w3.alloc (.cells #[.int .i64 (c : Int), .int .i64 (c : Int), .slice s3 N d3] 24)) w.heap.size (.int .i64 (r : Int)) (.int .i64 (c : Int)) (.slice a n k)) := (HX.out.va.later HB3.out).later (qa1 _ _); have b0 := HX3.out.c0; have b1 := HX3.out.c1; clear ho3 hb)
  | (go_at_call 19; refine (zero_any _ c r L hc hr HL).mono ?_; rintro e w4 ⟨gz, rfl, hr4, hg4, hb⟩; have HB34 : Hid (Below w3.heap.size w3 (w4.alloc (.cells #[.int .i64 (c : Int), .int .i64 (r : Int), .slice (some ⟨gz, 0, none⟩) L L] 24))) := qa0 (qa0 (qa1 _ _) hb) (qa1 _ _); have hgz3 : w3.heap.size < gz := (by have h1 := (World.size_alloc w3 (.cells #[.int .i64 (c : Int), .int .i64 (c : Int), .slice s3 N d3] 24)); omega); have hgz4 : gz < w4.heap.size := hr4.lt; have HR4 : Hid (RowAt (w4.alloc (.cells #[.int .i64 (c : Int), .int .i64 (r : Int), .slice (some ⟨gz, 0, none⟩) L L] 24)) gz 5 L (fun _ => 0)) := hr4.later (qa1 _ _); have HV4 : Hid (Vr (w4.alloc (.cells #[.int .i64 (c : Int), .int .i64 (r : Int), .slice (some ⟨gz, 0, none⟩) L L] 24)) w4.heap.size (.int .i64 (c : Int)) (.int .i64 (r : Int)) (.slice (some ⟨gz, 0, none⟩) L L)) := Vr.new _ _ _ _; have HP4 : Hid (Vr (w4.alloc (.cells #[.int .i64 (c : Int), .int .i64 (r : Int), .slice (some ⟨gz, 0, none⟩) L L] 24)) w3.heap.size (.int .i64 (c : Int)) (.int .i64 (c : Int)) (.slice s3 N d3)) := (HV3.out.later hb).later (qa1 _ _); clear hr4 hg4 hb))
 obtain ⟨W0, HW0⟩ : ∃ W0, Hid (W0 = w4.alloc (.cells #[.int .i64 (c : Int), .int .i64 (r : Int), .slice (some ⟨gz, 0, none⟩) L L] 24)) := ⟨_, rfl⟩
 rw [← HW0.out]
 have HB30 : Hid (Below w3.heap.size w3 W0) := by rw [HW0.out]; exact HB34.out
 have HR0 : Hid (RowAt W0 gz 5 L (fun _ => 0)) := by rw [HW0.out]; exact HR4.out
 have HVo : Hid (Vr W0 w4.heap.size (.int .i64 (c : Int)) (.int .i64 (r : Int)) (.slice (some ⟨gz, 0, none⟩) L L)) := by rw [HW0.out]; exact HV4.out
 have HVp : Hid (Vr W0 w3.heap.size (.int .i64 (c : Int)) (.int .i64 (c : Int)) (.slice s3 N d3)) := by rw [HW0.out]; exact HP4.out
 have HB0 : Hid (Below wb.heap.size wb W0) := qa0 HB3.out HB30.out
 have HVa : Hid (Vr W0 w.heap.size (.int .i64 (r : Int)) (.int .i64 (c : Int)) (.slice a n k)) := HX.out.va.later HB0.out
 have HVz : Hid (Vr W0 (w.heap.size + 1) (.int .i64 0) (.int .i64 0) (.slice none 0 0)) := HX.out.vr.later HB0.out
 have HB20 : Hid (Below w2.heap.size w2 W0) := qa0 HB23.out HB30.out
 obtain ⟨bz, Hbz⟩ : ∃ bz, Hid (bz = w4.heap.size) := ⟨_, rfl⟩
 obtain ⟨bp, Hbp⟩ : ∃ bp, Hid (bp = w3.heap.size) := ⟨_, rfl⟩
 have h23 : w2.heap.size ≤ w3.heap.size := HB23.out.size
 have hs0 : bz < W0.heap.size := by rw [Hbz.out]; exact HVo.out.lt
 have hgzW : gz < W0.heap.size := by have := Hbz.out; omega
 have hb3 : wb.heap.size ≤ w3.heap.size := HB3.out.size
 have hgz2 : w2.heap.size ≤ gz := by omega
 have hbzz : bz ≠ gz := by rw [Hbz.out]; omega
 have hbpz : bp ≠ gz := by rw [Hbp.out]; omega
 have HBw : Hid (Below w.heap.size w W0) := qa0 HX.out.below HB0.out
 have HVo2 : Hid (Vr W0 bz (.int .i64 (c : Int)) (.int .i64 (r : Int)) (.slice (some ⟨gz, 0, none⟩) L L)) := by rw [Hbz.out]; exact HVo.out
 have HVp2 : Hid (Vr W0 bp (.int .i64 (c : Int)) (.int .i64 (c : Int)) (.slice s3 N d3)) := by rw [Hbp.out]; exact HVp.out
 have HM0 : Hid (∀ W, W0.grownBy W (some gz) → Mt W s3 N d3 (pkf F z c)) := fun W hg => qld HM3.out (by omega) HB30.out hg
 have HI0 : Hid (∀ W, W0.grownBy W (some gz) → Il W xs c (fun i => (z i : Int))) := fun W hg => qlc HI2.out hgz2 HB20.out hg
 have hwz : w.heap.size < gz := by omega
 have hwz1 : w.heap.size + 1 < gz := by omega
 rw [← Hbz.out, ← Hbp.out]
 clear HW HB1 HB2 HB3 HB23 HB34 HR4 HV4 HP4 HV3 HX3 HM3 HI2 HB30 HB0 HB20 HVo HVp HW0 Hbz Hbp a0 a1 a2 b0 b1 HS HLs
 go_loopw [14] (fun si wr => ∃ (i : Nat) (O : Nat → Nat), i ≤ c ∧ si = .int .i64 (i : Int) ∧ DecI F O p r c i ∧ W0.grownBy wr (some gz) ∧ RowAt wr gz 5 L O) (fun si _ => c - (intOf si).toNat)
 case atStart => exact ⟨0, fun _ => 0, by omega, rfl, DecI.start F p r c, qd9 _ _, HR0.out⟩
 case round =>
  clear HR0
  obtain ⟨i, O, hic, rfl, hD, hg, hrow⟩ := hrel
  have HD1 := qal hD
  have HG := qal hg
  have HRow1 := qal hrow
  have v0 := (HVa.out.kept hg (by omega)).c0
  have v1 := (HVa.out.kept hg (by omega)).c1
  have hsw := hg.size
  clear hD hg hrow
  by_cases hlt : i < c
  ·have p2 : (0 : Int) ≤ (i : Int) := by omega
   have p3 : (i : Int) < (c : Int) := by omega
   go_wp2_with (first
    | (at_make; refine wpList_make_full _ rfl _ _ 22 rfl wr.heap.size 5 i0 (.int .u8 0) 1 Tryz.underlying22 hi0 hz0 hz1 .i64 .i64 _ _ c rfl rfl rfl rfl (by rw [hz2]; omega) hml (Nat.le_refl _) ?_; intro w7 hown hgrow; have HR7 : Hid (RowAt w7 wr.heap.size 5 c (fun _ => 0)) := qbu hown; have HB7 : Hid (Below wr.heap.size wr w7) := qa5.mp hgrow; have hc7 := HR7.out.cell i hlt; have hf7 := HR7.out.free i; obtain ⟨W8, HW8⟩ : ∃ W, Hid (W = w7.setCell ⟨wr.heap.size, i, none⟩ (.int .u8 (1 : Int))) := ⟨_, rfl⟩; have HS8 : Hid (Sl W8 (some ⟨wr.heap.size, 0, none⟩) c (uj i)) := (by rw [HW8.out]; exact ((HR7.out.set i 1).congr (f' := uj i) (fun l _ => rfl)).sl (fun l _ => uj_lt i l)); have HB8 : Hid (Below wr.heap.size wr W8) := (by rw [HW8.out]; exact HB7.out.grown (qa3 _ _ _ _) HB7.out.size (fun g e => by have h := Option.some.inj e; omega)); have HG8 : Hid (W0.grownBy W8 (some gz)) := qcm HG.out (qa5.mpr HB8.out) (fun g e => by cases e); have hq := HVp2.out.kept HG8.out hbpz; have q0 := hq.c0; have q1 := hq.c1; have q2 := hq.c2; rw [HW8.out] at q0 q1 q2; clear hown hgrow hq)
    | (go_at_call 20; rw [← HW8.out]; refine (rcomb_ok _ c c N d3 c s3 _ (pkf F z c) (uj i) (HM0.out _ HG8.out) RN.out HS8.out).mono ?_; rintro e w9 hh; have hh2 : ∃ s9 d9 x, e = .returned (.tuple #[.slice s9 c d9, .bool true, .int .i64 0]) ∧ Ob w9 W8.heap.size (.slice s9 c d9) c x ∧ CmbA (pkf F z c) (uj i) c c x ∧ Below W8.heap.size W8 w9 := (hh.resolve_right (fun h => h.2.1 (HSp.out i hlt))); obtain ⟨s9, d9, x, rfl, ho9, hs9, hb9⟩ := hh2; have HO9 : Hid (Ob w9 W8.heap.size (.slice s9 c d9) c x) := ho9; have HCm : Hid (CmbA (pkf F z c) (uj i) c c x) := hs9; have HG9 : Hid (W0.grownBy w9 (some gz)) := qcm HG8.out (qa5.mpr hb9) (fun g e => by cases e); have HRw9 : Hid (RowAt w9 gz 5 L O) := (HRow1.out.later HB8.out).later hb9; clear hh ho9 hs9 hb9))
   have hs8 := HB8.out.size
   have N1 : Hid ((Value.slice s9 c d9).ownBlock ≠ some gz) := fun e => by have h1 := (HO9.out.base e).1; omega
   have HK9 : Hid (DecK F O x p r c i 0) := HD1.out.inner hlt
   go_loopw [19] (fun sk wi => ∃ (kk : Nat) (O2 : Nat → Nat), kk ≤ c ∧ sk = .int .i64 (kk : Int) ∧ DecK F O2 x p r c i kk ∧ W0.grownBy wi (some gz) ∧ RowAt wi gz 5 L O2 ∧ Ob wi W8.heap.size (.slice s9 c d9) c x) (fun sk _ => c - (intOf sk).toNat)
   case atStart => exact ⟨0, O, by omega, rfl, HK9.out, HG9.out, HRw9.out, HO9.out⟩
   case round =>
    clear HK9 HG9 HRw9 HO9 HG8 HB8 HS8 HW8 HB7 HR7 q0 q1 q2 v0 v1 hc7 hf7 HG HRow1 HD1 hsw
    obtain ⟨kk, O2, hkc, rfl, hK, hg, hrow, hO⟩ := hrel
    have HK := qal hK
    have HG := qal hg
    have HO := qal hO
    have HRow : Hid (RowAt wr gz 5 L O2) := hrow
    have hcr := (HVa.out.kept hg (by omega)).c0
    have hco := (HVo2.out.kept hg hbzz).c2
    by_cases hlt2 : kk < c
    ·obtain ⟨g9, eg⟩ := hO.some (by omega)
     subst eg
     have hxc := hO.cell hlt2
     obtain ⟨bx, ox, ex, hzc⟩ := HI0.out wr hg kk hlt2
     obtain ⟨xi, HXI⟩ : ∃ v, Hid (x kk = v) := ⟨_, rfl⟩
     rw [HXI.out] at hxc
     obtain ⟨zk, HZK⟩ : ∃ v, Hid (z kk = v) := ⟨_, rfl⟩
     have hzc2 : wr.cell? ⟨bx, ox + kk, none⟩ = some (.int .i64 (zk : Int)) := by rw [← HZK.out]; exact hzc
     have hzr : zk < r := by rw [← HZK.out]; exact Hz.out kk hlt2
     have hxi : x kk < 256 := HCm.out.1.1 kk
     obtain ⟨P, HP⟩ : ∃ v, Hid (i * r + zk = v) := ⟨_, rfl⟩
     have hpn : P < L := by rw [← HP.out]; exact RL.out.at hlt hzr
     have e1 : ((i : Int) * (r : Int)) = ((i * r : Nat) : Int) := by simp
     have hmp : i * r ≤ P := by rw [← HP.out]; omega
     have w1' : IntKind.i64.wrap ((i : Int) * (r : Int)) = (i : Int) * (r : Int) := by rw [e1, IntKind.wrap_i64]; omega
     have w2' : IntKind.i64.wrap ((i : Int) * (r : Int) + (zk : Int)) = (P : Int) := by rw [e1, IntKind.wrap_i64]; have := HP.out; omega
     have p0 : (0 : Int) ≤ (P : Int) := by omega
     have p1 : (P : Int) < (L : Int) := by omega
     have p4 : (0 : Int) ≤ (kk : Int) := by omega
     have p5 : (kk : Int) < (c : Int) := by omega
     have HKn : Hid (DecK F (fun t => if t = P then xi else O2 t) x p r c i (kk + 1)) := by
      have h := hK.put (v := xi) (by rw [Hcn.out]; exact hlt2) HXI.out.symm hxi
      rw [HZl.out, HZK.out, HP.out] at h
      exact h
     have HD : Hid (wr.drew.cell? ⟨w.heap.size, 0, none⟩ = some (.int .i64 (r : Int)) ∧ wr.drew.cell? ⟨bz, 2, none⟩ = some (.slice (some ⟨gz, 0, none⟩) L L) ∧ wr.drew.cell? ⟨bx, ox + kk, none⟩ = some (.int .i64 (zk : Int)) ∧ wr.drew.cell? ⟨g9, kk, none⟩ = some (.int .u8 (xi : Int))) := ⟨hcr, hco, hzc2, hxc⟩
     subst ex
     clear hK hg hO hrow e1 hxc hzc hzc2 hcr hco HP HZK HXI HI0
     go_wp2
     refine qae (k := 16) (n := 16) (fun w' => w'.cell? ⟨w.heap.size, 0, none⟩ = some (.int .i64 (r : Int)) ∧ w'.cell? ⟨bz, 2, none⟩ = some (.slice (some ⟨gz, 0, none⟩) L L) ∧ w'.cell? ⟨bx, ox + kk, none⟩ = some (.int .i64 (zk : Int)) ∧ w'.cell? ⟨g9, kk, none⟩ = some (.int .u8 (xi : Int))) (by kernel_rfl) (by kernel_rfl) (by decide) (by rfl) ?_
     refine wtkq 0 ?v0 rfl (by kernel_rfl) (fun _ _ _ h => h) (by rfl) ?y0 HD.out ?z0
     case y0 => (intro w hSw; (try dsimp only at hSw); go_simp; try with_reducible rfl)
     try simp only [mz1, mz3, Act.put, mz4, mz5, mz6]
     refine wtkq 1 ?v1 rfl (by kernel_rfl) (fun _ _ _ h => h) (by rfl) ?y1 HD.out ?z1
     case y1 => (intro w hSw; (try dsimp only at hSw); go_simp; try with_reducible rfl)
     try simp only [mz1, mz2, mz3, Act.put, mz4, mz5, mz6]
     refine wtkq 2 ?v2 rfl (by kernel_rfl) (fun _ _ _ h => h) (by rfl) ?y2 HD.out ?z2
     case y2 => (intro w hSw; (try dsimp only at hSw); go_simp; try with_reducible rfl)
     try simp only [mz1, mz2, mz3, Act.put, mz4, mz5, mz6]
     refine wtkq 3 ?v3 rfl (by kernel_rfl) (fun _ _ _ h => h) (by rfl) ?y3 HD.out ?z3
     case y3 => (intro w hSw; (try dsimp only at hSw); go_simp; try with_reducible rfl)
     try simp only [mz1, mz2, mz3, Act.put, mz4, mz5, mz6]
     refine wtkq 4 ?v4 rfl (by kernel_rfl) (fun _ _ _ h => h) (by rfl) ?y4 HD.out ?z4
     case y4 => (intro w hSw; (try dsimp only at hSw); go_simp; try with_reducible rfl)
     try simp only [mz1, mz2, mz3, Act.put, mz4, mz5, mz6]
     refine wtkq 5 ?v5 rfl (by kernel_rfl) (fun _ _ _ h => h) (by rfl) ?y5 HD.out ?z5
     case y5 => (intro w hSw; (try dsimp only at hSw); go_simp; try with_reducible rfl)
     try simp only [mz1, mz2, mz3, Act.put, mz4, mz5, mz6]
     refine wtkq 6 ?v6 rfl (by kernel_rfl) (fun _ _ _ h => h) (by rfl) ?y6 HD.out ?z6
     case y6 => (intro w hSw; (try dsimp only at hSw); go_simp; try with_reducible rfl)
     try simp only [mz1, mz2, mz3, Act.put, mz4, mz5, mz6]
     refine wtkq 7 ?v7 rfl (by kernel_rfl) (fun _ _ _ h => h) (by rfl) ?y7 HD.out ?z7
     case y7 => (intro w hSw; (try dsimp only at hSw); go_simp; try with_reducible rfl)
     try simp only [mz1, mz2, mz3, Act.put, mz4, mz5, mz6]
     refine wtkq 8 ?v8 rfl (by kernel_rfl) (fun _ _ _ h => h) (by rfl) ?y8 HD.out ?z8
     case y8 => (intro w hSw; (try dsimp only at hSw); go_simp; try with_reducible rfl)
     try simp only [mz1, mz2, mz3, Act.put, mz4, mz5, mz6]
     refine wtkq 9 ?v9 rfl (by kernel_rfl) (fun _ _ _ h => h) (by rfl) ?y9 HD.out ?z9
     case y9 => (intro w hSw; (try dsimp only at hSw); go_simp; try with_reducible rfl)
     try simp only [mz1, mz2, mz3, Act.put, mz4, mz5, mz6]
     refine wtkq 10 ?v10 rfl (by kernel_rfl) (fun _ _ _ h => h) (by rfl) ?y10 HD.out ?z10
     case y10 => (intro w hSw; (try dsimp only at hSw); go_simp; try with_reducible rfl)
     try simp only [mz1, mz2, mz3, Act.put, mz4, mz5, mz6]
     refine wtkq 11 ?v11 rfl (by kernel_rfl) (fun _ _ _ h => h) (by rfl) ?y11 HD.out ?z11
     case y11 => (intro w hSw; (try dsimp only at hSw); go_simp; try with_reducible rfl)
     try simp only [mz1, mz2, mz3, Act.put, mz4, mz5, mz6]
     refine wtkq 12 ?v12 rfl (by kernel_rfl) (fun _ _ _ h => h) (by rfl) ?y12 HD.out ?z12
     case y12 => (intro w hSw; (try dsimp only at hSw); go_simp; try with_reducible rfl)
     try simp only [mz1, mz2, mz3, Act.put, mz4, mz5, mz6]
     refine wtkq 13 ?v13 rfl (by kernel_rfl) (fun _ _ _ h => h) (by rfl) ?y13 HD.out ?z13
     case y13 => (intro w hSw; (try dsimp only at hSw); go_simp; try with_reducible rfl)
     try simp only [mz1, mz2, mz3, Act.put, mz4, mz5, mz6]
     refine wtkq 14 ?v14 rfl (by kernel_rfl) (fun _ _ _ h => h) (by rfl) ?y14 HD.out ?z14
     case y14 => (intro w hSw; (try dsimp only at hSw); go_simp; try with_reducible rfl)
     try simp only [mz1, mz2, mz3, Act.put, mz4, mz5, mz6]
     refine wtkq 15 ?v15 rfl (by kernel_rfl) (fun _ _ _ h => h) (by rfl) ?y15 HD.out ?z15
     case y15 => (intro w hSw; (try dsimp only at hSw); go_simp; try with_reducible rfl)
     try simp only [mz1, mz2, mz3, Act.put, mz4, mz5, mz6]
     refine wpAnyH_done (by kernel_rfl) ?_ _
     have hcl : wr.drew.cell? ⟨gz, P, none⟩ = some (.int .u8 ((O2 P : Nat) : Int)) := HRow.out.cell P hpn
     have hfl : wr.drew.frozen? ⟨gz, P, none⟩ = false := HRow.out.free P
     refine qax rfl (fun K hK => ?_)
     go_simp
     refine hK.out _ _ ?_
     clear hK K
     try simp only [mz1, mz2, mz3, Act.put, mz4, mz5, mz6]
     go_wp2
     exact ⟨⟨kk + 1, _, by omega, by go_num, HKn.out, qgd (qcm HG.out (qa5.mpr (Below.refl _ _).drew) (fun g e => by cases e)) (qa3 _ _ _ _), (HRow.out.later (Below.refl _ _).drew).set P xi, (HO.out.later (Below.refl _ _).drew).kept (qa3 _ _ _ _) (.inr N1.out)⟩, by simp [intOf]; omega⟩
    ·obtain rfl : kk = c := by omega
     have HN2 := qal (HNx.out O2 x i hlt HCm.out hK)
     clear hK hg hO hrow hcr hco
     go_wp2
     exact ⟨⟨i + 1, O2, by omega, by go_num, HN2.out, HG.out, HRow.out⟩, by simp [intOf]; omega⟩
  ·obtain rfl : i = c := by omega
   have o := HVo2.out.kept HG.out hbzz
   have o0 := o.c0
   have o1 := o.c1
   have o2 := o.c2
   have HVz2 : Hid (Vr wr (w.heap.size + 1) (.int .i64 0) (.int .i64 0) (.slice none 0 0)) := HVz.out.kept HG.out (by omega)
   have HDd := qal HD1.out.dec
   have HBr : Hid (Below w.heap.size w wr) := HBw.out.grown HG.out HBw.out.size (fun g e => by have h := Option.some.inj e; omega)
   clear o
   go_wp2_with (refine qa2 rfl _ _ rfl (w.heap.size + 1) _ _ _ (.int .i64 (i : Int)) (.int .i64 (r : Int)) (.slice (some ⟨gz, 0, none⟩) L L) rfl rfl HVz2.out rfl rfl rfl ?_; intro w5 HV5 HG5)
   have d0 := HV5.out.c0
   have d1 := HV5.out.c1
   have d2 := HV5.out.c2
   refine bodyPost_ret (v := .tuple #[mv i r (some ⟨gz, 0, none⟩) L L, .bool true, .int .i64 0]) (by simp [results, Tryz.results6, go_sem, d0, d1, d2, mv]) rfl ?_
   exact ⟨gz, O, rfl, HRow1.out.kept HG5.out (by omega), by omega, HDd.out, qa4 HBr.out HG5.out (by omega)⟩
end Go.Proofs.YtokdejhbjoglcaaGreat
