/-
  One product that the document fixes; what follows for products of matrices (grouped, transposed, applied, laid together); the program's answers by cases.
-/
import Derived.Test.YtaoehildaenbnabMo
namespace Go.Proofs.Ytaoehildaenbnab
open Go.RowKit
/-- The numbers of a list of four. -/
def four (a b c d i : Nat) : Nat := if i = 0 then a else if i = 1 then b else if i = 2 then c else d
theorem four_row (w : World) (a b c d : Nat) : RowAt (w.alloc (.cells #[.int .u8 (a : Int), .int .u8 (b : Int), .int .u8 (c : Int), .int .u8 (d : Int)] 5)) w.heap.size 5 4 (four a b c d) := by
  unfold RowAt
  rw [new_at]
  kernel_rfl
theorem four_lt {a b c d : Nat} (ha : a < 256) (hb : b < 256) (hc : c < 256) (hd : d < 256) (i : Nat) : four a b c d i < 256 := by
  unfold four
  repeat' split
  all_goals assumption
theorem anch_prk : ∀ i, i < 4 → prk (four 1 2 0 1) (four 1 0 3 1) 2 2 2 i = four 7 2 3 1 i := by
  intro i hi
  rcases (by omega : i = 0 ∨ i = 1 ∨ i = 2 ∨ i = 3) with rfl | rfl | rfl | rfl <;> kernel_rfl
theorem rt22 : Rt 2 2 4 := ⟨by omega, by omega, rfl⟩
set_option maxRecDepth 20000 in
set_option maxHeartbeats 2000000 in
theorem anch_any (w : World) : Calls Try.prog 10 #[] w fun e w' => e = .returned (.bool true) ∧ Below w.heap.size w w' := by
  obtain ⟨wb, HW⟩ : ∃ wb, Hid (wb = (w.alloc (.cells #[.int .u8 1, .int .u8 2, .int .u8 0, .int .u8 1] 5)).alloc (.cells #[.int .u8 1, .int .u8 0, .int .u8 3, .int .u8 1] 5)) := ⟨_, rfl⟩
  have HA : Hid (Mt wb (some ⟨w.heap.size, 0, none⟩) 4 4 (four 1 2 0 1)) := by
    show Mt _ _ _ _ _
    rw [HW.out]
    exact ((four_row w 1 2 0 1).later (alloc_low _ _)).mt (fun i _ => four_lt (by decide) (by decide) (by decide) (by decide) i)
  have HBm : Hid (Mt wb (some ⟨w.heap.size + 1, 0, none⟩) 4 4 (four 1 0 3 1)) := by
    show Mt _ _ _ _ _
    rw [HW.out]
    have := four_row (w.alloc (.cells #[.int .u8 1, .int .u8 2, .int .u8 0, .int .u8 1] 5)) 1 0 3 1
    have := this.mt (fun i _ => four_lt (by decide) (by decide) (by decide) (by decide) i)
    simpa using this
  have HB0 : Hid (Below w.heap.size w wb) := by rw [HW.out]; exact two_below (alloc_low _ _) (alloc_low _ _)
  have HMul : Hid (∀ (w : World) (a b : Option Addr), Mt w a 4 4 (four 1 2 0 1) → Mt w b 4 4 (four 1 0 3 1) → Calls Try.prog 8 #[mv 2 2 a 4 4, mv 2 2 b 4 4] w fun e w' => ∃ g, e = .returned (.tuple #[mv 2 2 (some ⟨g, 0, none⟩) 4 4, .int .i64 0]) ∧ RowAt w' g 5 4 (four 7 2 3 1) ∧ w.heap.size ≤ g ∧ Below w.heap.size w w') := fun w a b ha hb =>
    (mmul_ok w 2 2 2 4 4 4 4 4 a b _ _ ha hb rt22 rt22 rt22).mono (fun e w' h => by
      obtain ⟨g, he, hr, hg, hb⟩ := h
      exact ⟨g, he, hr.congr anch_prk, hg, hb⟩)
  have H7 : Hid (∀ (w : World) (o : Obj), Sl ((w.alloc o).alloc (.cells #[.int .u8 7, .int .u8 2, .int .u8 3, .int .u8 1] 5)) (some ⟨w.heap.size + 1, 0, none⟩) 4 (four 7 2 3 1)) := fun w o => by
    have := (four_row (w.alloc o) 7 2 3 1).sl (fun i _ => four_lt (by decide) (by decide) (by decide) (by decide) i)
    simpa using this
  have HB7 : Hid (∀ i, i < 4 → four 7 2 3 1 i < 256) := fun i _ => four_lt (by decide) (by decide) (by decide) (by decide) i
  obtain ⟨fA, HFA⟩ : ∃ f, Hid (four 1 2 0 1 = f) := ⟨_, rfl⟩
  obtain ⟨fB, HFB⟩ : ∃ f, Hid (four 1 0 3 1 = f) := ⟨_, rfl⟩
  obtain ⟨f7, HF7⟩ : ∃ f, Hid (four 7 2 3 1 = f) := ⟨_, rfl⟩
  rw [HFA.out] at HA HMul
  rw [HFB.out] at HBm HMul
  rw [HF7.out] at HMul H7 HB7
  have HL : Hid (likeB 2 2 2 2 4 4 f7 f7 = true) := likeB_true (fun _ _ => rfl)
  have HLk : Hid (∀ (w : World) (a b : Option Addr), Sl w a 4 f7 → Sl w b 4 f7 → Calls Try.prog 11 #[mv 2 2 a 4 4, mv 2 2 b 4 4] w fun e w' => e = .returned (.bool true) ∧ Below w.heap.size w w') := fun w a b ha hb => by
    have := like_exact w 2 2 2 2 a b 4 4 4 4 f7 f7 ha hb
    rw [HL.out] at this
    exact this
  clear HFA HFB HF7 HL
  go_enter Try.func10, Try.ntmps10
  go_wp2_with (first
    | (go_at_call 8; rw [← HW.out]; refine (HMul.out _ _ _ HA.out HBm.out).mono ?_; rintro e w1 ⟨g, rfl, hr, hg, hb⟩; have HR : Hid (RowAt w1 g 5 4 f7) := hr; have HB1 : Hid (Below w.heap.size w w1) := two_below HB0.out hb; clear hr hg hb)
    | (go_at_call 11; refine (HLk.out _ _ _ ((HR.out.sl HB7.out).later (two_below (alloc_low _ _) (alloc_low _ _))) (H7.out _ _)).mono ?_; rintro e w2 ⟨rfl, hb2⟩; have HB2 : Hid (Below w.heap.size w w2) := two_below (two_below (two_below HB1.out (alloc_low _ _)) (alloc_low _ _)) hb2; clear hb2))
  go_ret
  exact ⟨rfl, HB2.out⟩
/-- Every place of a matrix is a row and a column. -/
theorem place_of {r c n p : Nat} (R : Rt r c n) (hp : p < n) : ∃ i j, i < r ∧ j < c ∧ p = i * c + j := by
  have hl := R.len
  have hc : 0 < c := by
    rcases Nat.eq_zero_or_pos c with rfl | h
    · omega
    · exact h
  refine ⟨p / c, p % c, (Nat.div_lt_iff_lt_mul hc).2 (by rw [hl]; exact hp), Nat.mod_lt p hc, ?_⟩
  have := Nat.div_add_mod p c
  rw [Nat.mul_comm] at this
  exact this.symm
theorem prk_at (F G : Nat → Nat) (ca cb i j : Nat) (hj : j < cb) : prk F G ca cb ca (i * cb + j) = xs (fun t => fm (F (i * ca + t)) (G (t * cb + j))) ca := prk_row F G ca cb i j hj
/-- Products may be grouped in either way. -/
theorem prk_assoc {F G H : Nat → Nat} {ra ca cb cc na nb n : Nat} (hF : ∀ i, i < na → F i < 256) (hG : ∀ i, i < nb → G i < 256) (RA : Rt ra ca na) (RB : Rt ca cb nb) (RD : Rt ra cc n) :
    ∀ p, p < n → prk (prk F G ca cb ca) H cb cc cb p = prk F (prk G H cb cc cb) ca cc ca p := by
  intro p hp
  obtain ⟨i, j, hi, hj, rfl⟩ := place_of RD hp
  rw [prk_at _ _ cb cc i j hj, prk_at _ _ ca cc i j hj]
  have h1 : ∀ t, t < cb → fm (prk F G ca cb ca (i * cb + t)) (H (t * cc + j)) = xs (fun s => fm (fm (F (i * ca + s)) (G (s * cb + t))) (H (t * cc + j))) ca := fun t ht => by
    rw [prk_at F G ca cb i t ht, xs_mul_r _ _ _ (fun s hs => fm_lt _ _ (hF _ (RA.at hi hs)))]
  have h2 : ∀ s, s < ca → fm (F (i * ca + s)) (prk G H cb cc cb (s * cc + j)) = xs (fun t => fm (fm (F (i * ca + s)) (G (s * cb + t))) (H (t * cc + j))) cb := fun s hs => by
    rw [prk_at G H cb cc s j hj, xs_mul_l]
    refine xs_congr (fun t ht => ?_)
    rw [fm_assoc _ _ _ (hF _ (RA.at hi hs)) (hG _ (RB.at hs ht))]
  rw [xs_congr h1, xs_congr h2]
  exact xs_swap (fun t s => fm (fm (F (i * ca + s)) (G (s * cb + t))) (H (t * cc + j))) cb ca
/-- Transposed twice it is itself. -/
theorem trf_trf {F : Nat → Nat} {r c n : Nat} (R : Rt r c n) : ∀ p, p < n → trf (trf F r c) c r p = F p := by
  intro p hp
  obtain ⟨i, j, hi, hj, rfl⟩ := place_of R hp
  rw [trf_at (trf F r c) c r j i hj, trf_at F r c i j hi]
/-- A product transposed is the product the other way round. -/
theorem trf_prk {F G : Nat → Nat} {ra ca cb na nb n : Nat} (hF : ∀ i, i < na → F i < 256) (hG : ∀ i, i < nb → G i < 256) (RA : Rt ra ca na) (RB : Rt ca cb nb) (RC : Rt cb ra n) :
    ∀ p, p < n → trf (prk F G ca cb ca) ra cb p = prk (trf G ca cb) (trf F ra ca) ca ra ca p := by
  intro p hp
  obtain ⟨j, i, hj, hi, rfl⟩ := place_of RC hp
  rw [trf_at _ ra cb i j hi, prk_at F G ca cb i j hj, prk_at _ _ ca ra j i hi]
  refine xs_congr (fun t ht => ?_)
  rw [trf_at G ca cb t j ht, trf_at F ra ca i t hi, fm_comm _ _ (hF _ (RA.at hi ht)) (hG _ (RB.at ht hj))]
/-- Apply of a product goes step by step. -/
theorem apf_apf {F G X : Nat → Nat} {ra ca cb na nb : Nat} (hF : ∀ i, i < na → F i < 256) (hG : ∀ i, i < nb → G i < 256) (RA : Rt ra ca na) (RB : Rt ca cb nb) :
    ∀ i, i < ra → apf F (apf G X cb) ca i = apf (prk F G ca cb ca) X cb i := by
  intro i hi
  unfold apf
  have h1 : ∀ s, s < ca → fm (F (i * ca + s)) (xs (fun t => fm (G (s * cb + t)) (X t)) cb) = xs (fun t => fm (fm (F (i * ca + s)) (G (s * cb + t))) (X t)) cb := fun s hs => by
    rw [xs_mul_l]
    refine xs_congr (fun t ht => ?_)
    rw [fm_assoc _ _ _ (hF _ (RA.at hi hs)) (hG _ (RB.at hs ht))]
  have h2 : ∀ t, t < cb → fm (prk F G ca cb ca (i * cb + t)) (X t) = xs (fun s => fm (fm (F (i * ca + s)) (G (s * cb + t))) (X t)) ca := fun t ht => by
    rw [prk_at F G ca cb i t ht, xs_mul_r _ _ _ (fun s hs => fm_lt _ _ (hF _ (RA.at hi hs)))]
  rw [xs_congr h1, xs_congr h2]
  exact xs_swap (fun s t => fm (fm (F (i * ca + s)) (G (s * cb + t))) (X t)) ca cb
/-- The identity changes nothing. -/
theorem apf_idf {X : Nat → Nat} {n : Nat} (hX : ∀ i, i < n → X i < 256) : ∀ i, i < n → apf (idf n) X n i = X i := by
  intro i hi
  unfold apf
  rw [xs_one hi (fun t ht hne => by rw [idf_at n i t hi ht, if_neg (Ne.symm hne), zero_fm]), idf_at n i i hi hi, if_pos rfl, one_fm _ (hX i hi)]
theorem xs_app (f : Nat → Nat) (a b : Nat) : xs f (a + b) = xs f a ^^^ xs (fun t => f (a + t)) b := by
  induction b with
  | zero => simp [xs]
  | succ b ih => rw [← Nat.add_assoc]; simp only [xs]; rw [ih, Nat.xor_assoc]
theorem xs_prod (f : Nat → Nat) (a b : Nat) : xs f (a * b) = xs (fun s => xs (fun t => f (s * b + t)) b) a := by
  induction a with
  | zero => rw [Nat.zero_mul]; rfl
  | succ a ih => rw [Nat.add_mul, Nat.one_mul, xs_app, ih]; rfl
theorem divmod_at (s b t : Nat) (h : t < b) : (s * b + t) / b = s ∧ (s * b + t) % b = t :=
  ⟨by rw [Nat.mul_comm, Nat.mul_add_div (by omega), Nat.div_eq_of_lt h, Nat.add_zero], by rw [Nat.mul_comm, Nat.mul_add_mod, Nat.mod_eq_of_lt h]⟩
theorem lt_prod {s t a b : Nat} (hs : s < a) (ht : t < b) : s * b + t < a * b :=
  Nat.lt_of_lt_of_le (show s * b + t < (s + 1) * b by rw [Nat.add_mul, Nat.one_mul]; omega) (Nat.mul_le_mul_right b hs)
/-- Every number below a product is a pair. -/
theorem pair_of {a b p : Nat} (hp : p < a * b) : ∃ s t, s < a ∧ t < b ∧ p = s * b + t := by
  have hb : 0 < b := by
    rcases Nat.eq_zero_or_pos b with rfl | h
    · omega
    · exact h
  refine ⟨p / b, p % b, (Nat.div_lt_iff_lt_mul hb).2 hp, Nat.mod_lt p hb, ?_⟩
  have := Nat.div_add_mod p b
  rw [Nat.mul_comm] at this
  exact this.symm
theorem krf_pair (F G : Nat → Nat) (ca rb cb CC i k j l : Nat) (eC : ca * cb = CC) (hk : k < rb) (hj : j < ca) (hl : l < cb) : krf F G ca rb cb CC ((i * rb + k) * CC + (j * cb + l)) = fm (F (i * ca + j)) (G (k * cb + l)) := by
  have h := lt_prod hj hl
  rw [eC] at h
  rw [krf_at F G ca rb cb CC _ _ h, (divmod_at i rb k hk).1, (divmod_at i rb k hk).2, (divmod_at j cb l hl).1, (divmod_at j cb l hl).2]
theorem fm4 {a b c d : Nat} (ha : a < 256) (hb : b < 256) (hc : c < 256) : fm (fm a b) (fm c d) = fm (fm a c) (fm b d) := by
  rw [fm_assoc a b _ ha hb, fm_assoc a c _ ha hc, ← fm_assoc b c d hb hc, fm_comm b c hb hc, fm_assoc c b d hc hb]
/-- The Kron of products is the product of the Krons. -/
theorem krf_prk {F S G T : Nat → Nat} {ra ca da rb cb db na ns nb RR CC DD n : Nat} (hF : ∀ i, i < na → F i < 256) (hS : ∀ i, i < ns → S i < 256) (hG : ∀ i, i < nb → G i < 256)
    (RA : Rt ra ca na) (RS : Rt ca da ns) (RB : Rt rb cb nb) (eR : ra * rb = RR) (eC : ca * cb = CC) (eD : da * db = DD) (RC : Rt RR DD n) :
    ∀ p, p < n → krf (prk F S ca da ca) (prk G T cb db cb) da rb db DD p = prk (krf F G ca rb cb CC) (krf S T da cb db DD) CC DD CC p := by
  intro p hp
  obtain ⟨R, C, hR, hC, rfl⟩ := place_of RC hp
  rw [← eR] at hR
  obtain ⟨i, k, hi, hk, rfl⟩ := pair_of hR
  rw [← eD] at hC
  obtain ⟨j, l, hj, hl, rfl⟩ := pair_of hC
  rw [eD] at hC
  rw [krf_pair _ _ da rb db DD i k j l eD hk hj hl, prk_at _ _ CC DD _ _ hC, prk_at F S ca da i j hj, prk_at G T cb db k l hl, ← eC, xs_prod]
  rw [xs_mul_r _ _ _ (fun s hs => fm_lt _ _ (hF _ (RA.at hi hs)))]
  refine xs_congr (fun s hs => ?_)
  rw [xs_mul_l]
  refine xs_congr (fun t ht => ?_)
  rw [krf_pair F G ca rb cb (ca * cb) i k s t rfl hk hs ht, krf_pair S T da cb db DD s t j l eD ht hj hl]
  exact fm4 (hF _ (RA.at hi hs)) (hS _ (RS.at hs hj)) (hG _ (RB.at hk ht))
theorem tr_ans (w : World) (r c n k : Nat) (a : Option Addr) (F : Nat → Nat) (ha : Mt w a n k F) (R : Rt r c n) : Calls Try.prog 7 #[mv r c a n k] w (fun e w' => MAns w w' e c r n (trf F r c) 0) :=
  (mtrans_ok w r c n k a F ha R).mono (fun _ _ h => mans_row (trf_all ha.sl.1 R) h)
theorem mu_ans (w : World) (ra ca cb na nb n ka kb : Nat) (a b : Option Addr) (F G : Nat → Nat) (ha : Mt w a na ka F) (hb : Mt w b nb kb G) (RA : Rt ra ca na) (RB : Rt ca cb nb) (RC : Rt ra cb n) : Calls Try.prog 8 #[mv ra ca a na ka, mv ca cb b nb kb] w (fun e w' => MAns w w' e ra cb n (prk F G ca cb ca) 0) :=
  (mmul_ok w ra ca cb na nb n ka kb a b F G ha hb RA RB RC).mono (fun _ _ h => mans_row (prk_all G ha.sl.1 RA RC) h)
theorem kr_ans (w : World) (ra ca rb cb na nb RR CC n ka kb : Nat) (a b : Option Addr) (F G : Nat → Nat) (ha : Mt w a na ka F) (hb : Mt w b nb kb G) (RA : Rt ra ca na) (RB : Rt rb cb nb) (eR : ra * rb = RR) (eC : ca * cb = CC) (RC : Rt RR CC n) : Calls Try.prog 12 #[mv ra ca a na ka, mv rb cb b nb kb] w (fun e w' => MAns w w' e RR CC n (krf F G ca rb cb CC) 0) :=
  (mkron_ok w ra ca rb cb na nb RR CC n ka kb a b F G ha hb RA RB eR eC RC).mono (fun _ _ h => mans_row (krf_all G ha.sl.1 RA eR eC RC) h)
theorem ap_ans (w : World) (r c n k d : Nat) (a b : Option Addr) (F X : Nat → Nat) (ha : Mt w a n k F) (hb : Mt w b c d X) (R : Rt r c n) : Calls Try.prog 13 #[mv r c a n k, .slice b c d] w (fun e w' => LAns w w' e r (apf F X c) 0) :=
  (mapply_ok w r c n k d a b F X ha hb.sl R).mono (fun _ _ h => lans_row (apf_lt X ha.sl.1 R) h)
theorem id_ans (w : World) (n m : Nat) (hn : n ≤ 64) (HM : Hid (n * n = m)) : Calls Try.prog 14 #[.int .i64 (n : Int)] w (fun e w' => MAns w w' e n n m (idf n) 0) :=
  (mident_ok w n m hn HM).mono (fun _ _ h => mans_row (fun p _ => idf_lt n p) h)
theorem like_ans (w : World) (r c : Int) (a b : Option Addr) (n k d : Nat) (f h : Nat → Nat) (ha : Mt w a n k f) (hb : Mt w b n d h) (e : ∀ i, i < n → f i = h i) : Calls Try.prog 11 #[mv r c a n k, mv r c b n d] w fun e w' => e = .returned (.bool true) ∧ Below w.heap.size w w' := by
  have := like_exact w r c r c a b n n k d f h ha.sl hb.sl
  rw [likeB_true e] at this
  exact this
theorem same_ans (w : World) (a b : Option Addr) (n k d : Nat) (f h : Nat → Nat) (ha : Mt w a n k f) (hb : Mt w b n d h) (e : ∀ i, i < n → f i = h i) : Calls Try.prog 15 #[.slice a n k, .slice b n d] w fun e w' => e = .returned (.bool true) ∧ w = w' :=
  same_at w a b n k d h (ha.sl.congr e) hb.sl
theorem ptrans_fit (r c : Int) (n : Nat) (F : Nat → Nat) (h : RightP r c n) : ∃ (R C : Int) (N : Nat) (f : Nat → Nat), ∀ (w : World) (k : Nat) (a : Option Addr), Mt w a n k F → Calls Try.prog 7 #[mv r c a n k] w (fun e w' => MAns w w' e R C N f 0) := by
  obtain ⟨ra, ca, rfl, rfl, RA⟩ := right_rt h
  exact ⟨_, _, _, _, fun w k a ha => tr_ans w ra ca n k a F ha RA⟩
theorem ptrans_bad (r c : Int) (n : Nat) (h : ¬ RightP r c n) (w : World) (k : Nat) (a : Option Addr) : Calls Try.prog 7 #[mv r c a n k] w (fun e w' => MAns w w' e 0 0 0 (fun _ => 0) 3) := (mtrans_bad w r c n k a h).mono (fun _ _ h => mans_bad h)
theorem ptrans_any (r c : Int) (n : Nat) (F : Nat → Nat) : ∃ (R C : Int) (N : Nat) (f : Nat → Nat) (E : Int), ∀ (w : World) (k : Nat) (a : Option Addr), Mt w a n k F → Calls Try.prog 7 #[mv r c a n k] w (fun e w' => MAns w w' e R C N f E) := by
  by_cases h : RightP r c n
  · obtain ⟨R, C, N, f, h⟩ := ptrans_fit r c n F h
    exact ⟨R, C, N, f, 0, h⟩
  · exact ⟨0, 0, 0, fun _ => 0, 3, fun w k a _ => ptrans_bad r c n h w k a⟩
theorem pmul_fit (r c r' c' : Int) (n m : Nat) (F G : Nat → Nat) (h : FitP r c n r' c' m) : ∃ (R C : Int) (N : Nat) (f : Nat → Nat), ∀ (w : World) (k d : Nat) (a b : Option Addr), Mt w a n k F → Mt w b m d G → Calls Try.prog 8 #[mv r c a n k, mv r' c' b m d] w (fun e w' => MAns w w' e R C N f 0) := by
  obtain ⟨h1, h2, h3⟩ := h
  obtain ⟨ra, ca, rfl, rfl, RA⟩ := right_rt h1
  obtain ⟨rb, cb, rfl, rfl, RB⟩ := right_rt h2
  obtain rfl : ca = rb := by omega
  exact ⟨_, _, _, _, fun w k d a b ha hb => mu_ans w ra ca cb n m (ra * cb) k d a b F G ha hb RA RB ⟨RA.r64, RB.c64, rfl⟩⟩
theorem pmul_bad (r c r' c' : Int) (n m : Nat) (h : ¬ FitP r c n r' c' m) (w : World) (k d : Nat) (a b : Option Addr) : Calls Try.prog 8 #[mv r c a n k, mv r' c' b m d] w (fun e w' => MAns w w' e 0 0 0 (fun _ => 0) 3) := (mmul_bad w r c r' c' n k m d a b h).mono (fun _ _ h => mans_bad h)
theorem pmul_any (r c r' c' : Int) (n m : Nat) (F G : Nat → Nat) : ∃ (R C : Int) (N : Nat) (f : Nat → Nat) (E : Int), ∀ (w : World) (k d : Nat) (a b : Option Addr), Mt w a n k F → Mt w b m d G → Calls Try.prog 8 #[mv r c a n k, mv r' c' b m d] w (fun e w' => MAns w w' e R C N f E) := by
  by_cases h : FitP r c n r' c' m
  · obtain ⟨R, C, N, f, h⟩ := pmul_fit r c r' c' n m F G h
    exact ⟨R, C, N, f, 0, h⟩
  · exact ⟨0, 0, 0, fun _ => 0, 3, fun w k d a b _ _ => pmul_bad r c r' c' n m h w k d a b⟩
theorem papply_bad (r c : Int) (n m : Nat) (h : ¬ (RightP r c n ∧ (m : Int) = c)) (w : World) (k d : Nat) (a b : Option Addr) : Calls Try.prog 13 #[mv r c a n k, .slice b m d] w (fun e w' => LAns w w' e 0 (fun _ => 0) 3) := (mapply_bad w r c n k m d a b h).mono (fun _ _ h => lans_bad h)
theorem papply_any (r c : Int) (n m : Nat) (F X : Nat → Nat) : ∃ (N : Nat) (f : Nat → Nat) (E : Int), ∀ (w : World) (k d : Nat) (a b : Option Addr), Mt w a n k F → Mt w b m d X → Calls Try.prog 13 #[mv r c a n k, .slice b m d] w (fun e w' => LAns w w' e N f E) := by
  by_cases h : RightP r c n ∧ (m : Int) = c
  · obtain ⟨h1, h2⟩ := h
    obtain ⟨ra, ca, rfl, rfl, RA⟩ := right_rt h1
    obtain rfl : m = ca := by omega
    exact ⟨_, _, _, fun w k d a b ha hb => ap_ans w ra m n k d a b F X ha hb RA⟩
  · exact ⟨0, fun _ => 0, 3, fun w k d a b _ _ => papply_bad r c n m h w k d a b⟩
end Go.Proofs.Ytaoehildaenbnab
