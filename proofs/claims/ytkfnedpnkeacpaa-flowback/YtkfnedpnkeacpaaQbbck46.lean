/-
  Stage 21: what comes out of a flow is its matrix, applied; the reference's Apply.
-/
import Derived.Test.YtkfnedpnkeacpaaQbbck00
import Derived.Test.YtkfnedpnkeacpaaQbbck45
set_option maxRecDepth 100000
set_option maxHeartbeats 16000000
namespace Go.Proofs.Ytkfnedpnkeacpaa
open Go.RowKit
theorem sx_zero (b : Nat → Nat → Nat) (i : Nat) : ∀ n, sx b (fun _ => 0) n i = 0 := by
 intro n
 induction n with
 | zero => rfl
 | succ n ih => show sx b (fun _ => 0) n i ^^^ fm 0 (b n i) = 0; rw [ih, qcn]; rfl
theorem sx_add (b : Nat → Nat → Nat) {g h : Nat → Nat} (i : Nat) : ∀ n, (∀ j, j < n → g j < 256) → (∀ j, j < n → h j < 256) → sx b (fun j => g j ^^^ h j) n i = sx b g n i ^^^ sx b h n i := by
 intro n
 induction n with
 | zero => intro _ _; show 0 = 0 ^^^ 0; simp
 | succ n ih =>
  intro hg hh
  show sx b (fun j => g j ^^^ h j) n i ^^^ fm (g n ^^^ h n) (b n i) = (sx b g n i ^^^ fm (g n) (b n i)) ^^^ (sx b h n i ^^^ fm (h n) (b n i))
  rw [ih (fun j hj => hg j (by omega)) (fun j hj => hh j (by omega)), xor_fm _ _ _ (hg n (by omega)) (hh n (by omega))]
  rw [Nat.xor_assoc, Nat.xor_assoc]
  congr 1
  rw [← Nat.xor_assoc, ← Nat.xor_assoc, Nat.xor_comm (sx b h n i)]
theorem sx_scale (b : Nat → Nat → Nat) {g : Nat → Nat} {c : Nat} (hc : c < 256) (i : Nat) : ∀ n, (∀ j, j < n → g j < 256) → fm c (sx b g n i) = sx b (fun j => fm c (g j)) n i := by
 intro n
 induction n with
 | zero => intro _; exact qco c
 | succ n ih =>
  intro hg
  show fm c (sx b g n i ^^^ fm (g n) (b n i)) = sx b (fun j => fm c (g j)) n i ^^^ fm (fm c (g n)) (b n i)
  rw [qd4, ih (fun j hj => hg j (by omega)), qd3 c (g n) _ hc (hg n (by omega))]
theorem qf5 (b : Nat → Nat → Nat) {g h : Nat → Nat} (i : Nat) : ∀ n, (∀ j, j < n → g j = h j) → sx b g n i = sx b h n i := by
 intro n
 induction n with
 | zero => intro _; rfl
 | succ n ih =>
  intro e
  show sx b g n i ^^^ fm (g n) (b n i) = sx b h n i ^^^ fm (h n) (b n i)
  rw [ih (fun j hj => e j (by omega)), e n (by omega)]
theorem sx_unb (b : Nat → Nat → Nat) {z i : Nat} (hb : b z i < 256) : ∀ n, sx b (unb z) n i = if z < n then b z i else 0 := by
 intro n
 induction n with
 | zero => rw [if_neg (by omega)]; rfl
 | succ n ih =>
  show sx b (unb z) n i ^^^ fm (unb z n) (b n i) = _
  rw [ih]
  by_cases h1 : z < n
  ·rw [if_pos h1, if_pos (by omega), show unb z n = 0 by unfold unb; rw [if_neg (by omega)], qcn, Nat.xor_zero]
  ·rw [if_neg h1]
   by_cases h2 : z = n
   ·subst h2
    rw [if_pos (by omega), show unb z z = 1 by unfold unb; rw [if_pos rfl], qcc _ hb, Nat.zero_xor]
   ·rw [if_neg (by omega), show unb z n = 0 by unfold unb; rw [if_neg h2], qcn]
    rfl
/-- Running a flow is applying its matrix. -/
theorem vlx_lin {F : Fl} (hM : MayP F) (hf : ∀ v j, F.ni ≤ v → v < F.ni + F.nn → j < tn F v → F.fc (v - F.ni) j < 256) {b : Nat → Nat → Nat} {n i : Nat} (hI : ∀ u, u < F.ni → F.inp u < (n : Int)) (hb : ∀ z, z < n → b z i < 256) :
  ∀ d v, v < d → v < F.ni + F.nn → vlx F b v i = sx b (vlx F unb v) n i := by
 intro d
 induction d with
 | zero => intro v h; omega
 | succ d ih =>
  intro v hv hN
  by_cases e : v < F.ni
  ·have h1 := hI v e
   have h2 := (hM.inp v e).1
   rw [qbw e, qbw e, sx_unb b (hb _ (by omega)), if_pos (by omega)]
  ·rw [qar hM (by omega) hN, qar hM (by omega) hN]
   have key : ∀ m, m ≤ tn F v → sx (fun j => vlx F b (tv F v j)) (F.fc (v - F.ni)) m i = sx b (fun j => sx (fun t => vlx F unb (tv F v t)) (F.fc (v - F.ni)) m j) n i := by
    intro m
    induction m with
    | zero => intro _; rw [show (fun j => sx (fun t => vlx F unb (tv F v t)) (F.fc (v - F.ni)) 0 j) = fun _ => 0 from rfl, sx_zero]; rfl
    | succ m ihm =>
     intro hm
     have h3 := (hM.term hN (show m < tn F v by omega)).2.1
     have hc := hf v m (by omega) hN (by omega)
     have hlt : ∀ u j, u < F.ni + F.nn → vlx F unb u j < 256 := fun u j hu => qdm hM hf (fun _ _ => qf4 _ _) hu
     show sx (fun j => vlx F b (tv F v j)) (F.fc (v - F.ni)) m i ^^^ fm (F.fc (v - F.ni) m) (vlx F b (tv F v m) i) = sx b (fun j => sx (fun t => vlx F unb (tv F v t)) (F.fc (v - F.ni)) m j ^^^ fm (F.fc (v - F.ni) m) (vlx F unb (tv F v m) j)) n i
     rw [ihm (by omega), ih _ (by omega) (by omega), sx_scale b hc i n (fun j _ => hlt _ j (by omega)),
      sx_add b (g := fun j => sx (fun t => vlx F unb (tv F v t)) (F.fc (v - F.ni)) m j) (h := fun j => fm (F.fc (v - F.ni) m) (vlx F unb (tv F v m) j)) i n (fun j _ => qcx _ fun t ht => hf v t (by omega) hN (by omega)) (fun j _ => qbo _ _ hc)]
   exact key _ (Nat.le_refl _)
theorem rapp_ok1 (w : World) (r c n k kb T : Nat) (a bl : Option Addr) (D : Nat → Nat) (A : Nat → Option Addr) (C : Nat → Nat) (bt : Nat → Nat → Nat) (ha : Mt w a n k D) (R : Rt r c n) (hB : Bl w bl c T A C bt) (hT : T ≤ 140737488351232) (h0 : 0 < c) :
  Calls Try.prog 20 #[mv r c a n k, .slice bl c kb] w fun e w' => (∃ v, e = .returned v ∧ Bo w' w.heap.size v r T (fun o i => sx bt (fun j => D (o * c + j)) c i)) ∧ Below w.heap.size w w' := by
 obtain ⟨i0, hi0, hz0, hz1, hz2⟩ := info_parts jsl8
 obtain ⟨i1, hi1, hy0, hy1, hy2⟩ := info_parts qbp
 have hr64 := R.r64
 have hc64 := R.c64
 have hmt : T ≤ maxLen := by unfold maxLen; omega
 have HM := qa0 ha
 have HRt := qa0 R
 have HBl := qa0 hB
 have hn4 := R.le
 have HB0 := qa0 (jlow w (.cells #[.int .i64 (r : Int), .int .i64 (c : Int), .slice a n k] 24))
 have HV0 := qa0 (Vf.new w 24 #[.int .i64 (r : Int), .int .i64 (c : Int), .slice a n k])
 have x0 := HV0.out.cell 0 (.int .i64 (r : Int)) rfl
 obtain ⟨Q, HQ⟩ : ∃ Q : World → Ending → Prop, Hid ((fun w2 e => ∃ v, e = .returned v ∧ Bo w2 w.heap.size v r T (fun o i => sx bt (fun j => D (o * c + j)) c i)) = Q) := ⟨_, rfl⟩
 have HQ2 : Hid (∀ w2 v, Bo w2 (w.heap.size + 1) v r T (fun o i => sx bt (fun j => D (o * c + j)) c i) → Q w2 (.returned v)) := fun w2 v h => by
  rw [← HQ.out]
  exact ⟨v, rfl, h.mono (by omega)⟩
 show Calls _ _ _ _ fun e w' => (fun w2 e => ∃ v, e = .returned v ∧ Bo w2 w.heap.size v r T (fun o i => sx bt (fun j => D (o * c + j)) c i)) w' e ∧ _
 rw [HQ.out]
 clear ha R hB HQ
 obtain ⟨xb, xo, rfl, hc0⟩ := (HBl.out.rl.later HB0.out).at' 0 h0
 rw [Nat.add_zero] at hc0
 have g1 : (0 : Int) < (c : Int) := by omega
 have g2 : decide ((0 : Int) < (c : Int)) = true := decide_eq_true g1
 obtain ⟨A0, HA0⟩ : ∃ s, Hid (A 0 = s) := ⟨_, rfl⟩
 obtain ⟨C0, HC0⟩ : ∃ s, Hid (C 0 = s) := ⟨_, rfl⟩
 rw [HA0.out, HC0.out] at hc0
 go_enter Try.func20, Try.ntmps20
 go_wp2
 clear x0
 go_loopw [6, 7] (fun vv vi wr => ∃ m : Nat, m ≤ r ∧ vi = .int .i64 (m : Int) ∧ Bo wr (w.heap.size + 1) vv m T (fun o i => sx bt (fun j => D (o * c + j)) c i) ∧ Vf wr w.heap.size 24 #[.int .i64 (r : Int), .int .i64 (c : Int), .slice a n k] ∧ Below w.heap.size w wr) (fun _ vi _ => r - (intOf vi).toNat)
 case atStart => exact ⟨0, by omega, rfl, Bo.nil _ _ _ _, HV0.out, HB0.out⟩
 case round =>
  clear HB0 HV0
  obtain ⟨m, hm, rfl, hbo, hv2, hb2⟩ := hrel
  have HV2 := qa0 hv2
  have HB2 := qa0 hb2
  have HBo := qa0 hbo
  have x0 := hv2.cell 0 (.int .i64 (r : Int)) rfl
  have x1 := hv2.cell 1 (.int .i64 (c : Int)) rfl
  clear hv2 hbo
  by_cases hlm : m < r
  ·have p0 : (0 : Int) ≤ (m : Int) := by omega
   have p1 : (m : Int) < (r : Int) := by omega
   have hws := hb2.size
   have hvl := HV2.out.lt
   clear hb2
   go_wp2_with (at_make; refine wpList_make_full _ rfl _ _ 22 rfl wr.heap.size 5 i1 (.int .u8 0) 1 Try.underlying22 hi1 hy0 hy1 .i64 .i64 _ _ T rfl rfl rfl rfl (by rw [hy2]; omega) hmt (Nat.le_refl _) ?_; intro w3 hown hgrow; have HU3 : Hid (w3.ownsRow (w.heap.size + 1) 5 1 (.slice (some ⟨wr.heap.size, 0, none⟩) T T) T (row T fun _ => 0).toList) := by { rw [← qbm]; exact qa8 hown (by omega) }; have hb3 : Below wr.heap.size wr w3 := qa5.mp hgrow; have HB3 := qa0 (jtwo HB2.out hb3); have HV3 := qa0 (HV2.out.later hb3); have HBo3 := qa0 (HBo.out.later hb3); clear hown hgrow hb3)
   clear HB2 HV2 HBo x0 x1
   go_loopw [8, 9] (fun sv vi w5 => ∃ j : Nat, j ≤ c ∧ vi = .int .i64 (j : Int) ∧ w5.ownsRow (w.heap.size + 1) 5 1 sv T (row T (sx bt (fun j => D (m * c + j)) j)).toList ∧ Bo w5 (w.heap.size + 1) u6 m T (fun o i => sx bt (fun j => D (o * c + j)) c i) ∧ Vf w5 w.heap.size 24 #[.int .i64 (r : Int), .int .i64 (c : Int), .slice a n k] ∧ Below w.heap.size w w5) (fun _ vi _ => c - (intOf vi).toNat)
   case atStart => exact ⟨0, by omega, rfl, HU3.out, HBo3.out, HV3.out, HB3.out⟩
   case round =>
    clear HU3 HBo3 HV3 HB3
    obtain ⟨j, hj, rfl, hu5, hbo5, hv5, hb5⟩ := hrel
    have HU5 := qa0 hu5
    have HBo5 := qa0 hbo5
    have HV5 := qa0 hv5
    have HB5 := qa0 hb5
    have x0 := hv5.cell 0 (.int .i64 (r : Int)) rfl
    have x1 := hv5.cell 1 (.int .i64 (c : Int)) rfl
    have x2 := hv5.cell 2 (.slice a n k) rfl
    clear hv5
    by_cases hjl : j < c
    ·obtain ⟨xb', xo', ee, hc⟩ := (HBl.out.rl.later hb5).at' j hjl
     cases ee
     have hs2 := (HBl.out.rl.later hb5).sl j hjl
     obtain ⟨s2, HA2⟩ : ∃ s, Hid (A j = s) := ⟨_, rfl⟩
     obtain ⟨d2, HC2⟩ : ∃ s, Hid (C j = s) := ⟨_, rfl⟩
     rw [HA2.out, HC2.out] at hc
     rw [HA2.out] at hs2
     obtain ⟨u, HU⟩ : ∃ u, Hid (D (m * c + j) = u) := ⟨_, rfl⟩
     have hat : m * c + j < n := HRt.out.at hlm hjl
     have hu8 : u < 256 := by rw [← HU.out]; exact HM.out.sl.1 _ hat
     obtain ⟨s1, d1, rfl, hs1, _⟩ := qb5 hu5 (fun i _ => qcx _ fun l hl => HM.out.sl.1 _ (HRt.out.at hlm (by omega)))
     have HAt := qa0 (fun w6 (hb : Below w.heap.size w w6) => at3_any w6 r c m j n k u a D (HM.out.later hb).sl hat hn4 HU)
     have HMac := qa0 (fun w6 (hb : Below wr.heap.size wr w6) => qdd w6 s1 s2 T u d1 d2 (sx bt (fun j => D (m * c + j)) j) (bt j) hu8 (hs1.later hb) (hs2.later hb) hT)
     have hsx : (fun i => sx bt (fun j => D (m * c + j)) j i ^^^ fm u (bt j i)) = sx bt (fun j => D (m * c + j)) (j + 1) := by
      funext i
      show _ = sx bt (fun j => D (m * c + j)) j i ^^^ fm (D (m * c + j)) (bt j i)
      rw [HU.out]
     rw [hsx] at HMac
     have hdr : Below wr.heap.size wr wr.drew := (Below.refl _ _).drew
     have HD : Hid ((fun w' : World => w'.cell? ⟨w.heap.size, 0, none⟩ = some (.int .i64 (r : Int)) ∧ w'.cell? ⟨w.heap.size, 1, none⟩ = some (.int .i64 (c : Int)) ∧ w'.cell? ⟨w.heap.size, 2, none⟩ = some (.slice a n k) ∧ w'.cell? ⟨xb, xo + j, none⟩ = some (.slice s2 T d2)) wr.drew) := ⟨x0, x1, x2, hc⟩
     have HBoD := qa0 (HBo5.out.later hdr)
     have HVD := qa0 (HV5.out.later hdr)
     have HBD := qa0 (jtwo HB5.out hdr)
     have HDr := qa0 hdr
     have p0 : (0 : Int) ≤ (j : Int) := by omega
     have p1 : (j : Int) < (c : Int) := by omega
     have hws := HBD.out.size
     have hvl := HVD.out.lt
     clear hu5 hbo5 hs1 hs2 hdr hb5 hsx
     go_wp2
     go_region_held3 (fun w' => w'.cell? ⟨w.heap.size, 0, none⟩ = some (.int .i64 (r : Int)) ∧ w'.cell? ⟨w.heap.size, 1, none⟩ = some (.int .i64 (c : Int)) ∧ w'.cell? ⟨w.heap.size, 2, none⟩ = some (.slice a n k) ∧ w'.cell? ⟨xb, xo + j, none⟩ = some (.slice s2 T d2))
      (first
       | exact HK7.out
       | exact HK6.out
       | exact HD.out)
      (first
       | (go_at_call 33; refine (HAt.out _ HBD.out).mono ?_; rintro e w6 ⟨rfl, hb6⟩; have HDr6 := qa0 (jtwo HDr.out hb6); have HBo6 := qa0 (HBoD.out.later hb6); have HV6 := qa0 (HVD.out.later hb6); have HB6 := qa0 (jtwo HBD.out hb6); have HK6 : Hid ((fun w' : World => w'.cell? ⟨w.heap.size, 0, none⟩ = some (.int .i64 (r : Int)) ∧ w'.cell? ⟨w.heap.size, 1, none⟩ = some (.int .i64 (c : Int)) ∧ w'.cell? ⟨w.heap.size, 2, none⟩ = some (.slice a n k) ∧ w'.cell? ⟨xb, xo + j, none⟩ = some (.slice s2 T d2)) w6) := ⟨keepc hb6 HD.out.1, keepc hb6 HD.out.2.1, keepc hb6 HD.out.2.2.1, keepc hb6 HD.out.2.2.2⟩; have hs6 := HB6.out.size; have hs66 := hb6.size; clear hb6)
       | (go_at_call 41; refine (HMac.out _ HDr6.out).mono ?_; rintro e w7 ⟨u7, rfl, hu7, hb7⟩; have HU7 := qa0 (qa8 hu7 (show w.heap.size + 1 ≤ _ by omega)); have HBo7 := qa0 (HBo6.out.later hb7); have HV7 := qa0 (HV6.out.later hb7); have HB7 := qa0 (jtwo HB6.out hb7); have HK7 : Hid ((fun w' : World => w'.cell? ⟨w.heap.size, 0, none⟩ = some (.int .i64 (r : Int)) ∧ w'.cell? ⟨w.heap.size, 1, none⟩ = some (.int .i64 (c : Int)) ∧ w'.cell? ⟨w.heap.size, 2, none⟩ = some (.slice a n k) ∧ w'.cell? ⟨xb, xo + j, none⟩ = some (.slice s2 T d2)) w7) := ⟨keepc hb7 HK6.out.1, keepc hb7 HK6.out.2.1, keepc hb7 HK6.out.2.2.1, keepc hb7 HK6.out.2.2.2⟩; clear hu7 hb7))
     clear HMac HD HK6 HK7 HBoD HVD HBD HDr HDr6 HBo6 HV6 HB6
     go_wp2
     exact ⟨⟨j + 1, by omega, by go_num, HU7.out, HBo7.out, HV7.out, HB7.out⟩, by simp [intOf]; omega⟩
    ·obtain rfl : j = c := by omega
     obtain ⟨s1, d1, rfl⟩ := qac hu5
     obtain ⟨vs, hvs, hel⟩ := hbo5
     have HVs := qa0 hvs
     have HEl := qa0 hel
     have hml : m + 1 ≤ maxLen := by unfold maxLen; omega
     have hws := HB5.out.size
     have hvl := HV5.out.lt
     clear hu5 hvs hel HBo5 hb5
     go_wp2_with (at_builtin; refine wpList_append_own _ rfl _ _ 41 rfl (w.heap.size + 1) 22 i0 (.slice none 0 0) 1 24 Try.underlying41 hi0 hz0 hz1 hz2 rfl (by decide) _ m vs rfl (World.ownsRow.alloc HVs.out _) ⟨wr.heap.size, 0, none⟩ 1 1 [.slice s1 T d1] rfl rfl (qah _ _ _) (by intro x hx; rw [List.mem_singleton.1 hx]; rfl) hml (by omega) (by simp; omega) ?_; intro v4 w4 hown4 hgrow4 _; have HO4 := qa0 hown4; have HG4 := qa0 hgrow4; clear hown4 hgrow4)
     obtain ⟨hbo4, hv4, hb4, _⟩ := qbl (B := w.heap.size + 1) (D := w.heap.size + 1) (x := fun o i => sx bt (fun l => D (o * j + l)) j i) (by omega) HVs.out HEl.out HU5.out (Nat.le_refl _) HO4.out HG4.out rfl HV5.out HB5.out
     exact ⟨⟨m + 1, by omega, by go_num, hbo4, hv4, hb4⟩, by simp [intOf]; omega⟩
  ·obtain rfl : m = r := by omega
   clear hb2 x1
   go_wp2
   go_ret
   exact ⟨HQ2.out _ _ HBo.out, HB2.out⟩
theorem rapp_ok0 (w : World) (r c n k kb : Nat) (a bl : Option Addr) (D : Nat → Nat) (A : Nat → Option Addr) (C : Nat → Nat) (bt : Nat → Nat → Nat) (ha : Mt w a n k D) (R : Rt r c n) (hB : Bl w bl c 0 A C bt) (h0 : c = 0) :
  Calls Try.prog 20 #[mv r c a n k, .slice bl c kb] w fun e w' => (∃ v, e = .returned v ∧ Bo w' w.heap.size v r 0 (fun o i => sx bt (fun j => D (o * c + j)) c i)) ∧ Below w.heap.size w w' := by
 obtain ⟨i0, hi0, hz0, hz1, hz2⟩ := info_parts jsl8
 obtain ⟨i1, hi1, hy0, hy1, hy2⟩ := info_parts qbp
 have hr64 := R.r64
 have hc64 := R.c64
 have hmt : 0 ≤ maxLen := Nat.zero_le _
 have hT : 0 ≤ 140737488351232 := Nat.zero_le _
 have HM := qa0 ha
 have HRt := qa0 R
 have HBl := qa0 hB
 have hn4 := R.le
 have HB0 := qa0 (jlow w (.cells #[.int .i64 (r : Int), .int .i64 (c : Int), .slice a n k] 24))
 have HV0 := qa0 (Vf.new w 24 #[.int .i64 (r : Int), .int .i64 (c : Int), .slice a n k])
 have x0 := HV0.out.cell 0 (.int .i64 (r : Int)) rfl
 obtain ⟨Q, HQ⟩ : ∃ Q : World → Ending → Prop, Hid ((fun w2 e => ∃ v, e = .returned v ∧ Bo w2 w.heap.size v r 0 (fun o i => sx bt (fun j => D (o * c + j)) c i)) = Q) := ⟨_, rfl⟩
 have HQ2 : Hid (∀ w2 v, Bo w2 (w.heap.size + 1) v r 0 (fun o i => sx bt (fun j => D (o * c + j)) c i) → Q w2 (.returned v)) := fun w2 v h => by
  rw [← HQ.out]
  exact ⟨v, rfl, h.mono (by omega)⟩
 show Calls _ _ _ _ fun e w' => (fun w2 e => ∃ v, e = .returned v ∧ Bo w2 w.heap.size v r 0 (fun o i => sx bt (fun j => D (o * c + j)) c i)) w' e ∧ _
 rw [HQ.out]
 clear ha R hB HQ
 have g1 : ¬ (0 : Int) < (c : Int) := by omega
 have g2 : decide ((0 : Int) < (c : Int)) = false := decide_eq_false g1
 have HC00 := qa0 h0
 clear h0
 go_enter Try.func20, Try.ntmps20
 go_wp2
 clear x0
 go_loopw [6, 7] (fun vv vi wr => ∃ m : Nat, m ≤ r ∧ vi = .int .i64 (m : Int) ∧ Bo wr (w.heap.size + 1) vv m 0 (fun o i => sx bt (fun j => D (o * c + j)) c i) ∧ Vf wr w.heap.size 24 #[.int .i64 (r : Int), .int .i64 (c : Int), .slice a n k] ∧ Below w.heap.size w wr) (fun _ vi _ => r - (intOf vi).toNat)
 case atStart => exact ⟨0, by omega, rfl, Bo.nil _ _ _ _, HV0.out, HB0.out⟩
 case round =>
  clear HB0 HV0
  obtain ⟨m, hm, rfl, hbo, hv2, hb2⟩ := hrel
  have HV2 := qa0 hv2
  have HB2 := qa0 hb2
  have HBo := qa0 hbo
  have x0 := hv2.cell 0 (.int .i64 (r : Int)) rfl
  have x1 := hv2.cell 1 (.int .i64 (c : Int)) rfl
  clear hv2 hbo
  by_cases hlm : m < r
  ·have p0 : (0 : Int) ≤ (m : Int) := by omega
   have p1 : (m : Int) < (r : Int) := by omega
   have hws := hb2.size
   have hvl := HV2.out.lt
   clear hb2
   go_wp2_with (at_make; refine wpList_make_full _ rfl _ _ 22 rfl wr.heap.size 5 i1 (.int .u8 0) 1 Try.underlying22 hi1 hy0 hy1 .i64 .i64 _ _ 0 rfl rfl rfl rfl (by rw [hy2]; omega) hmt (Nat.le_refl _) ?_; intro w3 hown hgrow; have HU3 : Hid (w3.ownsRow (w.heap.size + 1) 5 1 (.slice (some ⟨wr.heap.size, 0, none⟩) 0 0) 0 (row 0 fun _ => 0).toList) := by { rw [← qbm]; exact qa8 hown (by omega) }; have hb3 : Below wr.heap.size wr w3 := qa5.mp hgrow; have HB3 := qa0 (jtwo HB2.out hb3); have HV3 := qa0 (HV2.out.later hb3); have HBo3 := qa0 (HBo.out.later hb3); clear hown hgrow hb3)
   clear HB2 HV2 HBo x0 x1
   go_loopw [8, 9] (fun sv vi w5 => ∃ j : Nat, j ≤ c ∧ vi = .int .i64 (j : Int) ∧ w5.ownsRow (w.heap.size + 1) 5 1 sv 0 (row 0 (sx bt (fun j => D (m * c + j)) j)).toList ∧ Bo w5 (w.heap.size + 1) u6 m 0 (fun o i => sx bt (fun j => D (o * c + j)) c i) ∧ Vf w5 w.heap.size 24 #[.int .i64 (r : Int), .int .i64 (c : Int), .slice a n k] ∧ Below w.heap.size w w5) (fun _ vi _ => c - (intOf vi).toNat)
   case atStart => exact ⟨0, by omega, rfl, HU3.out, HBo3.out, HV3.out, HB3.out⟩
   case round =>
    clear HU3 HBo3 HV3 HB3
    obtain ⟨j, hj, rfl, hu5, hbo5, hv5, hb5⟩ := hrel
    have HU5 := qa0 hu5
    have HBo5 := qa0 hbo5
    have HV5 := qa0 hv5
    have HB5 := qa0 hb5
    have x0 := hv5.cell 0 (.int .i64 (r : Int)) rfl
    have x1 := hv5.cell 1 (.int .i64 (c : Int)) rfl
    have x2 := hv5.cell 2 (.slice a n k) rfl
    clear hv5
    by_cases hjl : j < c
    ·exact absurd hjl (by have := HC00.out; omega)
    ·obtain rfl : j = c := by omega
     obtain ⟨s1, d1, rfl⟩ := qac hu5
     obtain ⟨vs, hvs, hel⟩ := hbo5
     have HVs := qa0 hvs
     have HEl := qa0 hel
     have hml : m + 1 ≤ maxLen := by unfold maxLen; omega
     have hws := HB5.out.size
     have hvl := HV5.out.lt
     clear hu5 hvs hel HBo5 hb5
     go_wp2_with (at_builtin; refine wpList_append_own _ rfl _ _ 41 rfl (w.heap.size + 1) 22 i0 (.slice none 0 0) 1 24 Try.underlying41 hi0 hz0 hz1 hz2 rfl (by decide) _ m vs rfl (World.ownsRow.alloc HVs.out _) ⟨wr.heap.size, 0, none⟩ 1 1 [.slice s1 0 d1] rfl rfl (qah _ _ _) (by intro x hx; rw [List.mem_singleton.1 hx]; rfl) hml (by omega) (by simp; omega) ?_; intro v4 w4 hown4 hgrow4 _; have HO4 := qa0 hown4; have HG4 := qa0 hgrow4; clear hown4 hgrow4)
     obtain ⟨hbo4, hv4, hb4, _⟩ := qbl (B := w.heap.size + 1) (D := w.heap.size + 1) (x := fun o i => sx bt (fun l => D (o * j + l)) j i) (by omega) HVs.out HEl.out HU5.out (Nat.le_refl _) HO4.out HG4.out rfl HV5.out HB5.out
     exact ⟨⟨m + 1, by omega, by go_num, hbo4, hv4, hb4⟩, by simp [intOf]; omega⟩
  ·obtain rfl : m = r := by omega
   clear hb2 x1
   go_wp2
   go_ret
   exact ⟨HQ2.out _ _ HBo.out, HB2.out⟩
theorem rapp_ok (w : World) (r c n k kb T : Nat) (a bl : Option Addr) (D : Nat → Nat) (A : Nat → Option Addr) (C : Nat → Nat) (bt : Nat → Nat → Nat) (ha : Mt w a n k D) (R : Rt r c n) (hB : Bl w bl c T A C bt) (hT : T ≤ 140737488351232) (h0 : c = 0 → T = 0) :
  Calls Try.prog 20 #[mv r c a n k, .slice bl c kb] w fun e w' => (∃ v, e = .returned v ∧ Bo w' w.heap.size v r T (fun o i => sx bt (fun j => D (o * c + j)) c i)) ∧ Below w.heap.size w w' := by
 by_cases h : c = 0
 ·have hT0 := h0 h
  subst hT0
  exact rapp_ok0 w r c n k kb a bl D A C bt ha R hB h
 ·exact rapp_ok1 w r c n k kb T a bl D A C bt ha R hB hT (by omega)
end Go.Proofs.Ytkfnedpnkeacpaa
