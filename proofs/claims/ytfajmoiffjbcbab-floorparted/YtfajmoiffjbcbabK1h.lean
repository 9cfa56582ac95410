/-
  among; Aisle, Near.
-/
import Derived.Test.YtfajmoiffjbcbabK1g
namespace Go.Proofs.Ytfajmoiffjbcbab
open Go.RowKit
set_option maxHeartbeats 400000 in
theorem paisle1 (x y u v : Nat) (a c : Int) (w : World) (hx : Fw x a) (hu : Fw u c) (ha : -5 ≤ a ∧ a ≤ 5) (hc : -5 ≤ c ∧ c ≤ 5) :
    Calls Try.prog 14 #[.complex .f64 x y, .complex .f64 u v] w fun e w' => e = .returned (.bool (decide (a = c))) ∧ w' = w := by
  have h := fw_eq hx hu (by omega) (by omega)
  obtain ⟨r, hr⟩ : ∃ r, decide (a = c) = r := ⟨_, rfl⟩
  rw [hr] at h ⊢
  go_enter Try.func14, Try.ntmps14
  go_wp2
  go_ret
  exact ⟨by rw [← h]; rfl, rfl⟩
set_option maxHeartbeats 400000 in
theorem pnear1 (x y u v rb : Nat) (a b c d r : Int) (w : World) (hx : Fw x a) (hy : Fw y b) (hu : Fw u c) (hv : Fw v d) (ha : -5 ≤ a ∧ a ≤ 5) (hb : -5 ≤ b ∧ b ≤ 5) (hc : -5 ≤ c ∧ c ≤ 5) (hd : -5 ≤ d ∧ d ≤ 5) (HB : w.cell? ⟨rb, 0, none⟩ = some (.int .i64 r)) :
    Calls Try.prog 15 #[.complex .f64 x y, .complex .f64 u v, .pointer (some ⟨rb, 0, none⟩)] w fun e w' => e = .returned (.bool (decide ((((a - c).natAbs + (b - d).natAbs : Nat) : Int) ≤ r))) ∧ Below w.heap.size w w' := by
  obtain ⟨N, HN⟩ : ∃ N : Nat, Hid ((a - c).natAbs + (b - d).natAbs = N) := ⟨_, rfl⟩
  rw [HN.out]
  have HA : Hid (∀ w, Calls Try.prog 16 #[.complex .f64 x y, .complex .f64 u v] w fun e w' => e = .returned (.int .i64 (N : Int)) ∧ w' = w) := fun w => by
    rw [← HN.out]
    refine (papart x y u v a b c d w hx hy hu hv ha hb hc hd).mono ?_
    rintro e w' ⟨rfl, rfl⟩
    exact ⟨rfl, rfl⟩
  clear hx hy hu hv HN
  go_enter Try.func15, Try.ntmps15
  go_wp2
  go_quiet ((go_at_call 16; exact Calls.quiet_of_same (HA.out _)))
  go_wp2
  go_ret
  exact ⟨rfl, below_drewN (Below.refl _ _) _⟩
set_option maxHeartbeats 1000000 in
theorem pamongA_ok (w : World) (n d : Nat) (hn : n ≤ 64) (hd : d < n) :
    Calls Try.prog 13 #[.int .i64 (n : Int), .int .i64 (d : Int), .func (.func 14) #[] #[]] w fun e w' => e = .returned (.tuple #[.int .u64 ((gst (fun i => decide ((spl i).x = (spl d).x)) n : Nat) : Int), .int .i64 0]) ∧ Below w.heap.size w w' := by
  obtain ⟨P, HP⟩ : ∃ P : Nat → Bool, Hid (P = fun i => decide ((spl i).x = (spl d).x)) := ⟨_, rfl⟩
  rw [← HP.out]
  have g0 : decide ((d : Int) < 0) = false := decide_eq_false (by omega)
  have g1 : decide ((n : Int) ≤ (d : Int)) = false := decide_eq_false (by omega)
  have g2 : decide (n ≤ d) = false := decide_eq_false (by omega)
  go_enter Try.func13, Try.ntmps13
  go_wp2_with (go_at_call 22; refine (pspiral_ok _ n hn).mono ?_; rintro e w1 ⟨g, rfl, hc1, hg1, hb1⟩; have HC1 : Hid (Cl w1 g n n) := hc1; have HB1 : Hid (Below w.heap.size w w1) := hb1; clear hc1 hb1)
  go_loopw [10, 31] (fun vz vi wr => ∃ j z : Nat, j ≤ n ∧ Hid (gst P j = z) ∧ vi = .int .i64 (j : Int) ∧ vz = .int .u64 (z : Int) ∧ Below w1.heap.size w1 wr) (fun _ vi _ => n - (intOf vi).toNat)
  case atStart => exact ⟨0, 0, by omega, rfl, rfl, rfl, Below.refl _ _⟩
  case round =>
    obtain ⟨j, z, hj, HZ, rfl, rfl, hb⟩ := hrel
    have HB : Hid (Below w1.heap.size w1 wr) := hb
    clear hb
    by_cases hlt : j < n
    · have HC : Hid (Cl wr g n n) := HC1.out.later HB.out
      obtain ⟨x, y, cj, fj⟩ := HC.out.cell hlt
      obtain ⟨u, v, cd, fd⟩ := HC.out.cell hd
      have HFj : Hid (Fw x (spl j).x ∧ Fw y (spl j).y) := fj hlt
      have HFd : Hid (Fw u (spl d).x ∧ Fw v (spl d).y) := fd hd
      have p0 : (0 : Int) ≤ (j : Int) := by omega
      have p1 : (j : Int) < (n : Int) := by omega
      have p2 : (0 : Int) ≤ (d : Int) := by omega
      have p3 : (d : Int) < (n : Int) := by omega
      have d1 : decide ((j : Int) < (n : Int)) = true := decide_eq_true p1
      have s1 := spl_fit (k := j) (by omega)
      have s2 := spl_fit (k := d) (by omega)
      obtain ⟨r, HR⟩ : ∃ r, Hid (P j = r) := ⟨_, rfl⟩
      have HCALL : Hid (Calls Try.prog 14 #[.complex .f64 x y, .complex .f64 u v] wr fun e w' => e = .returned (.bool r) ∧ Below wr.heap.size wr w') := by
        have e : decide ((spl j).x = (spl d).x) = r := by rw [← HR.out, HP.out]
        rw [← e]
        refine (paisle1 x y u v _ _ _ HFj.out.1 HFd.out.1 (by omega) (by omega)).mono ?_
        rintro e w' ⟨rfl, rfl⟩
        exact ⟨rfl, Below.refl _ _⟩
      clear fj fd s1 s2
      cases r with
      | true =>
        obtain ⟨T, hT⟩ : ∃ T, 2 ^ j = T := ⟨_, rfl⟩
        obtain ⟨z', HZ'⟩ : ∃ z' : Nat, Hid (gst P (j + 1) = z') := ⟨_, rfl⟩
        have hp2 : IntKind.u64.wrap (2 ^ j) = (T : Int) := by rw [← hT]; exact j_pow j (by omega)
        have hor : bits .or .u64 (z : Int) (T : Int) = (z' : Int) := gst_or (by omega) HR.out HZ.out HZ'.out hT
        clear hT HR HZ
        go_wp2_with (go_at_call 14; refine HCALL.out.mono ?_; rintro e w3 ⟨rfl, hb3⟩; have HB3 : Hid (Below w1.heap.size w1 w3) := jtwo HB.out hb3; clear hb3)
        exact ⟨⟨j + 1, z', by omega, HZ', by go_num, rfl, HB3.out⟩, by simp [intOf]; omega⟩
      | false =>
        have HZ' : Hid (gst P (j + 1) = z) := by rw [← HZ.out]; exact (gst_out HR.out).symm
        clear HR HZ
        go_wp2_with (go_at_call 14; refine HCALL.out.mono ?_; rintro e w3 ⟨rfl, hb3⟩; have HB3 : Hid (Below w1.heap.size w1 w3) := jtwo HB.out hb3; clear hb3)
        exact ⟨⟨j + 1, z, by omega, HZ', by go_num, rfl, HB3.out⟩, by simp [intOf]; omega⟩
    · obtain rfl : j = n := by omega
      have d1 : decide ((j : Int) < (j : Int)) = false := decide_eq_false (by omega)
      clear HC1
      go_wp2
      go_ret2
      exact ⟨by rw [HZ.out]; rfl, jtwo HB1.out HB.out⟩
set_option maxHeartbeats 400000 in
theorem pamongA_bad (w : World) (n d : Int) (fv : Value) (h : ¬ (0 ≤ n ∧ n ≤ 64) ∨ d < 0 ∨ n ≤ d) :
    Calls Try.prog 13 #[.int .i64 n, .int .i64 d, fv] w fun e w' => e = .returned (.tuple #[.int .u64 0, .int .i64 2]) ∧ Below w.heap.size w w' := by
  by_cases hn : 0 ≤ n ∧ n ≤ 64
  · obtain ⟨N, rfl⟩ := Int.eq_ofNat_of_zero_le hn.1
    by_cases h0 : d < 0
    · have g0 : decide (d < 0) = true := decide_eq_true h0
      go_enter Try.func13, Try.ntmps13
      go_wp2_with (go_at_call 22; refine (pspiral_ok _ N (by omega)).mono ?_; rintro e w1 ⟨g, rfl, -, -, hb1⟩; have HB1 : Hid (Below w.heap.size w w1) := hb1; clear hb1)
      go_ret2
      exact ⟨rfl, HB1.out⟩
    · have g0 : decide (d < 0) = false := decide_eq_false h0
      have g1 : decide ((N : Int) ≤ d) = true := decide_eq_true (by omega)
      go_enter Try.func13, Try.ntmps13
      go_wp2_with (go_at_call 22; refine (pspiral_ok _ N (by omega)).mono ?_; rintro e w1 ⟨g, rfl, -, -, hb1⟩; have HB1 : Hid (Below w.heap.size w w1) := hb1; clear hb1)
      go_ret2
      exact ⟨rfl, HB1.out⟩
  · go_enter Try.func13, Try.ntmps13
    go_wp2_with (go_at_call 22; refine (pspiral_bad _ n (by omega)).mono ?_; rintro e w1 ⟨rfl, rfl⟩)
    go_ret2
    exact ⟨rfl, Below.refl _ _⟩
set_option maxHeartbeats 1000000 in
theorem pamongN_ok (w : World) (n d : Nat) (rb : Nat) (rr : Int) (hn : n ≤ 64) (hd : d < n) (hrb : w.cell? ⟨rb, 0, none⟩ = some (.int .i64 rr)) :
    Calls Try.prog 13 #[.int .i64 (n : Int), .int .i64 (d : Int), .func (.func 15) #[] #[.pointer (some ⟨rb, 0, none⟩)]] w fun e w' => e = .returned (.tuple #[.int .u64 ((gst (fun i => decide (((((spl i).x - (spl d).x).natAbs + ((spl i).y - (spl d).y).natAbs : Nat) : Int) ≤ rr)) n : Nat) : Int), .int .i64 0]) ∧ Below w.heap.size w w' := by
  obtain ⟨P, HP⟩ : ∃ P : Nat → Bool, Hid (P = fun i => decide (((((spl i).x - (spl d).x).natAbs + ((spl i).y - (spl d).y).natAbs : Nat) : Int) ≤ rr)) := ⟨_, rfl⟩
  rw [← HP.out]
  have g0 : decide ((d : Int) < 0) = false := decide_eq_false (by omega)
  have g1 : decide ((n : Int) ≤ (d : Int)) = false := decide_eq_false (by omega)
  have g2 : decide (n ≤ d) = false := decide_eq_false (by omega)
  have HRB : Hid (w.cell? ⟨rb, 0, none⟩ = some (.int .i64 rr)) := hrb
  clear hrb
  go_enter Try.func13, Try.ntmps13
  go_wp2_with (go_at_call 22; refine (pspiral_ok _ n hn).mono ?_; rintro e w1 ⟨g, rfl, hc1, hg1, hb1⟩; have HC1 : Hid (Cl w1 g n n) := hc1; have HB1 : Hid (Below w.heap.size w w1) := hb1; clear hc1 hb1)
  go_loopw [10, 31] (fun vz vi wr => ∃ j z : Nat, j ≤ n ∧ Hid (gst P j = z) ∧ vi = .int .i64 (j : Int) ∧ vz = .int .u64 (z : Int) ∧ Below w1.heap.size w1 wr) (fun _ vi _ => n - (intOf vi).toNat)
  case atStart => exact ⟨0, 0, by omega, rfl, rfl, rfl, Below.refl _ _⟩
  case round =>
    obtain ⟨j, z, hj, HZ, rfl, rfl, hb⟩ := hrel
    have HB : Hid (Below w1.heap.size w1 wr) := hb
    clear hb
    by_cases hlt : j < n
    · have HC : Hid (Cl wr g n n) := HC1.out.later HB.out
      obtain ⟨x, y, cj, fj⟩ := HC.out.cell hlt
      obtain ⟨u, v, cd, fd⟩ := HC.out.cell hd
      have HFj : Hid (Fw x (spl j).x ∧ Fw y (spl j).y) := fj hlt
      have HFd : Hid (Fw u (spl d).x ∧ Fw v (spl d).y) := fd hd
      have p0 : (0 : Int) ≤ (j : Int) := by omega
      have p1 : (j : Int) < (n : Int) := by omega
      have p2 : (0 : Int) ≤ (d : Int) := by omega
      have p3 : (d : Int) < (n : Int) := by omega
      have d1 : decide ((j : Int) < (n : Int)) = true := decide_eq_true p1
      have s1 := spl_fit (k := j) (by omega)
      have s2 := spl_fit (k := d) (by omega)
      obtain ⟨r, HR⟩ : ∃ r, Hid (P j = r) := ⟨_, rfl⟩
      have HCALL : Hid (Calls Try.prog 15 #[.complex .f64 x y, .complex .f64 u v, .pointer (some ⟨rb, 0, none⟩)] wr fun e w' => e = .returned (.bool r) ∧ Below wr.heap.size wr w') := by
        have e : decide (((((spl j).x - (spl d).x).natAbs + ((spl j).y - (spl d).y).natAbs : Nat) : Int) ≤ rr) = r := by rw [← HR.out, HP.out]
        rw [← e]
        refine (pnear1 x y u v rb _ _ _ _ rr _ HFj.out.1 HFj.out.2 HFd.out.1 HFd.out.2 (by omega) (by omega) (by omega) (by omega) ?_).mono ?_
        · have l1 := jcell_lt HRB.out
          have := HB1.out.size
          have b2 : Below w.heap.size w wr := jtwo HB1.out HB.out
          rw [← HRB.out]
          simp only [World.cell?, b2.block rb l1]
        rintro e w' ⟨rfl, hb⟩
        exact ⟨rfl, hb⟩
      clear fj fd s1 s2
      cases r with
      | true =>
        obtain ⟨T, hT⟩ : ∃ T, 2 ^ j = T := ⟨_, rfl⟩
        obtain ⟨z', HZ'⟩ : ∃ z' : Nat, Hid (gst P (j + 1) = z') := ⟨_, rfl⟩
        have hp2 : IntKind.u64.wrap (2 ^ j) = (T : Int) := by rw [← hT]; exact j_pow j (by omega)
        have hor : bits .or .u64 (z : Int) (T : Int) = (z' : Int) := gst_or (by omega) HR.out HZ.out HZ'.out hT
        clear hT HR HZ
        go_wp2_with (go_at_call 15; refine HCALL.out.mono ?_; rintro e w3 ⟨rfl, hb3⟩; have HB3 : Hid (Below w1.heap.size w1 w3) := jtwo HB.out hb3; clear hb3)
        exact ⟨⟨j + 1, z', by omega, HZ', by go_num, rfl, HB3.out⟩, by simp [intOf]; omega⟩
      | false =>
        have HZ' : Hid (gst P (j + 1) = z) := by rw [← HZ.out]; exact (gst_out HR.out).symm
        clear HR HZ
        go_wp2_with (go_at_call 15; refine HCALL.out.mono ?_; rintro e w3 ⟨rfl, hb3⟩; have HB3 : Hid (Below w1.heap.size w1 w3) := jtwo HB.out hb3; clear hb3)
        exact ⟨⟨j + 1, z, by omega, HZ', by go_num, rfl, HB3.out⟩, by simp [intOf]; omega⟩
    · obtain rfl : j = n := by omega
      have d1 : decide ((j : Int) < (j : Int)) = false := decide_eq_false (by omega)
      clear HC1
      go_wp2
      go_ret2
      exact ⟨by rw [HZ.out]; rfl, jtwo HB1.out HB.out⟩
set_option maxHeartbeats 400000 in
theorem paisle_ok (w : World) (n d : Nat) (hn : n ≤ 64) (hd : d < n) :
    Calls Try.prog 6 #[.int .i64 (n : Int), .int .i64 (d : Int)] w fun e w' => e = .returned (.tuple #[.int .u64 ((gst (fun i => decide ((spl i).x = (spl d).x)) n : Nat) : Int), .int .i64 0]) ∧ Below w.heap.size w w' := by
  obtain ⟨R, HR⟩ : ∃ R : Nat, Hid (gst (fun i => decide ((spl i).x = (spl d).x)) n = R) := ⟨_, rfl⟩
  have HC : Hid (∀ w, Calls Try.prog 13 #[.int .i64 (n : Int), .int .i64 (d : Int), .func (.func 14) #[] #[]] w fun e w' => e = .returned (.tuple #[.int .u64 (R : Int), .int .i64 0]) ∧ Below w.heap.size w w') := fun w => by rw [← HR.out]; exact pamongA_ok w n d hn hd
  rw [HR.out]
  go_enter Try.func6, Try.ntmps6
  go_wp2_with (go_at_call 13; refine (HC.out _).mono ?_; rintro e w1 ⟨rfl, hb⟩; have HB : Hid (Below w.heap.size w w1) := hb; clear hb)
  go_ret2
  exact ⟨rfl, HB.out⟩
set_option maxHeartbeats 400000 in
theorem paisle_bad (w : World) (n d : Int) (h : ¬ (0 ≤ n ∧ n ≤ 64) ∨ d < 0 ∨ n ≤ d) :
    Calls Try.prog 6 #[.int .i64 n, .int .i64 d] w fun e w' => e = .returned (.tuple #[.int .u64 0, .int .i64 2]) ∧ Below w.heap.size w w' := by
  go_enter Try.func6, Try.ntmps6
  go_wp2_with (go_at_call 13; refine (pamongA_bad _ n d _ h).mono ?_; rintro e w1 ⟨rfl, hb⟩; have HB : Hid (Below w.heap.size w w1) := hb; clear hb)
  go_ret2
  exact ⟨rfl, HB.out⟩
/-- What is near d. -/
def nearP (d : Nat) (rr : Int) : Nat → Bool := fun i => decide (((((spl i).x - (spl d).x).natAbs + ((spl i).y - (spl d).y).natAbs : Nat) : Int) ≤ rr)
set_option maxHeartbeats 400000 in
theorem pnear_ok (w : World) (n d : Nat) (rr : Int) (hn : n ≤ 64) (hd : d < n) (hr : 0 ≤ rr) :
    Calls Try.prog 9 #[.int .i64 (n : Int), .int .i64 (d : Int), .int .i64 rr] w fun e w' => e = .returned (.tuple #[.int .u64 ((gst (nearP d rr) n : Nat) : Int), .int .i64 0]) ∧ Below w.heap.size w w' := by
  have hmf : ∀ (fn : Fn) (first cap : Array Value) (w : World), (Instr.makeFunc fn first cap).run Try.prog w = .ok (.func fn first cap) w := fun _ _ _ _ => rfl
  obtain ⟨R, HR⟩ : ∃ R : Nat, Hid (gst (nearP d rr) n = R) := ⟨_, rfl⟩
  have bx := Boxed.new w 3 (.int .i64 rr)
  have HX : Hid (Below w.heap.size w (w.alloc (.cells #[.int .i64 rr] 3))) := jlow w _
  have HC : Hid (Calls Try.prog 13 #[.int .i64 (n : Int), .int .i64 (d : Int), .func (.func 15) #[] #[.pointer (some ⟨w.heap.size, 0, none⟩)]] (w.alloc (.cells #[.int .i64 rr] 3)) fun e w' => e = .returned (.tuple #[.int .u64 (R : Int), .int .i64 0]) ∧ Below w.heap.size w w') := by
    rw [← HR.out]
    refine (pamongN_ok (w.alloc (.cells #[.int .i64 rr] 3)) n d w.heap.size rr hn hd bx.cell).mono ?_
    rintro e w' ⟨rfl, hb⟩
    exact ⟨rfl, jtwo HX.out hb⟩
  rw [HR.out]
  have g0 : decide (rr < 0) = false := decide_eq_false (by omega)
  have cx := bx.cell
  clear bx HX
  go_enter Try.func9, Try.ntmps9
  go_wp2_with (go_at_call 13; refine HC.out.mono ?_; rintro e w1 ⟨rfl, hb⟩; have HB : Hid (Below w.heap.size w w1) := hb; clear hb)
  go_ret2
  exact ⟨rfl, HB.out⟩
set_option maxHeartbeats 400000 in
theorem pnear_bad (w : World) (n d rr : Int) (h : (¬ (0 ≤ n ∧ n ≤ 64) ∨ d < 0 ∨ n ≤ d) ∨ rr < 0) :
    Calls Try.prog 9 #[.int .i64 n, .int .i64 d, .int .i64 rr] w fun e w' => e = .returned (.tuple #[.int .u64 0, .int .i64 2]) ∧ Below w.heap.size w w' := by
  have hmf : ∀ (fn : Fn) (first cap : Array Value) (w : World), (Instr.makeFunc fn first cap).run Try.prog w = .ok (.func fn first cap) w := fun _ _ _ _ => rfl
  have HX : Hid (Below w.heap.size w (w.alloc (.cells #[.int .i64 rr] 3))) := jlow w _
  by_cases h0 : rr < 0
  · have g0 : decide (rr < 0) = true := decide_eq_true h0
    go_enter Try.func9, Try.ntmps9
    go_wp2
    go_ret2
    exact ⟨rfl, HX.out⟩
  · have g0 : decide (rr < 0) = false := decide_eq_false h0
    go_enter Try.func9, Try.ntmps9
    go_wp2_with (go_at_call 13; refine (pamongA_bad _ n d _ (by omega)).mono ?_; rintro e w1 ⟨rfl, hb⟩; have HB : Hid (Below w.heap.size w w1) := jtwo HX.out hb; clear hb)
    go_ret2
    exact ⟨rfl, HB.out⟩
end Go.Proofs.Ytfajmoiffjbcbab
