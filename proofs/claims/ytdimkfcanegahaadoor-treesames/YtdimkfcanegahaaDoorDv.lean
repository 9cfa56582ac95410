/-
  Contracts of the program's tree: expressions and shapes that are the same.
-/
import Derived.Test.YtdimkfcanegahaaDoorDu
import Derived.Test.YtdimkfcanegahaaDoorGd
namespace Go.Proofs.YtdimkfcanegahaaDoor
open Go.RowKit
theorem tl_eq {x y : ByteArray} : (x.toList == y.toList) = decide (x = y) := by
  by_cases h : x = y
  · subst h; simp
  · rw [tl_ne h, decide_eq_false h]
/-- An expression is at most d deep. -/
def FinX : Nat → Xt → Prop
  | 0, _ => False
  | d + 1, T => ∀ i, i < (T []).len → FinX d (kid T i)
theorem MX.fin : ∀ {d : Nat} {T : Xt}, MX d T → FinX d T := by
  intro d
  induction d with
  | zero => intro T h; exact h.no.elim
  | succ d ih => intro T h i hi; exact ih (h.kid hi)
theorem ZX.fin {T : Xt} (h : ZX T) : FinX 16 T := fun i hi => by have := h.2.2.2; omega
/-- The same but for places? -/
def lkB : Nat → Xt → Xt → Bool
  | 0, _, _ => true
  | d + 1, T, U => decide ((T []).k = (U []).k) && (decide ((T []).n = (U []).n) && (decide ((T []).nm = (U []).nm) && (decide ((T []).len = (U []).len) && alB (fun i => lkB d (kid T i) (kid U i)) (T []).len)))
theorem lk_iff : ∀ (d : Nat) (T U : Xt), lkB d T U = true ↔ xlk d T U := by
  intro d
  induction d with
  | zero => intro T U; exact ⟨fun _ => trivial, fun _ => rfl⟩
  | succ d ih =>
    intro T U
    show (decide ((T []).k = (U []).k) && (decide ((T []).n = (U []).n) && (decide ((T []).nm = (U []).nm) && (decide ((T []).len = (U []).len) && alB (fun i => lkB d (kid T i) (kid U i)) (T []).len)))) = true ↔ ((T []).k = (U []).k ∧ (T []).n = (U []).n ∧ (T []).nm = (U []).nm ∧ (T []).len = (U []).len ∧ ∀ i, i < (T []).len → xlk d (kid T i) (kid U i))
    simp only [Bool.and_eq_true, decide_eq_true_eq, alB_iff, ih]
/-- Lists of expressions that are the same. -/
def llB (F G : Nat → Xt) (d n m : Nat) : Bool := decide (n = m) && alB (fun i => lkB d (F i) (G i)) n
theorem ll_iff {F G : Nat → Xt} {d n m : Nat} : llB F G d n m = true ↔ n = m ∧ ∀ i, i < n → xlk d (F i) (G i) := by
  unfold llB
  simp only [Bool.and_eq_true, decide_eq_true_eq, alB_iff, lk_iff]
theorem range6 {w : World} {b o : Nat} {y0 y1 y2 y3 y4 y5 : Value} (h0 : w.cell? ⟨b, o, none⟩ = some y0) (h1 : w.cell? ⟨b, o + 1, none⟩ = some y1) (h2 : w.cell? ⟨b, o + 2, none⟩ = some y2) (h3 : w.cell? ⟨b, o + 3, none⟩ = some y3) (h4 : w.cell? ⟨b, o + 4, none⟩ = some y4) (h5 : w.cell? ⟨b, o + 5, none⟩ = some y5) : w.rangeAt b o [y0, y1, y2, y3, y4, y5] := by
  intro j v hj
  rcases j with _ | j
  · have e : y0 = v := by simpa using hj
    rw [← e]
    exact h0
  rcases j with _ | j
  · have e : y1 = v := by simpa using hj
    rw [← e]
    exact h1
  rcases j with _ | j
  · have e : y2 = v := by simpa using hj
    rw [← e]
    exact h2
  rcases j with _ | j
  · have e : y3 = v := by simpa using hj
    rw [← e]
    exact h3
  rcases j with _ | j
  · have e : y4 = v := by simpa using hj
    rw [← e]
    exact h4
  rcases j with _ | j
  · have e : y5 = v := by simpa using hj
    rw [← e]
    exact h5
  · simp at hj
theorem range7 {w : World} {b o : Nat} {y0 y1 y2 y3 y4 y5 y6 : Value} (h0 : w.cell? ⟨b, o, none⟩ = some y0) (h1 : w.cell? ⟨b, o + 1, none⟩ = some y1) (h2 : w.cell? ⟨b, o + 2, none⟩ = some y2) (h3 : w.cell? ⟨b, o + 3, none⟩ = some y3) (h4 : w.cell? ⟨b, o + 4, none⟩ = some y4) (h5 : w.cell? ⟨b, o + 5, none⟩ = some y5) (h6 : w.cell? ⟨b, o + 6, none⟩ = some y6) : w.rangeAt b o [y0, y1, y2, y3, y4, y5, y6] := by
  intro j v hj
  rcases j with _ | j
  · have e : y0 = v := by simpa using hj
    rw [← e]
    exact h0
  rcases j with _ | j
  · have e : y1 = v := by simpa using hj
    rw [← e]
    exact h1
  rcases j with _ | j
  · have e : y2 = v := by simpa using hj
    rw [← e]
    exact h2
  rcases j with _ | j
  · have e : y3 = v := by simpa using hj
    rw [← e]
    exact h3
  rcases j with _ | j
  · have e : y4 = v := by simpa using hj
    rw [← e]
    exact h4
  rcases j with _ | j
  · have e : y5 = v := by simpa using hj
    rw [← e]
    exact h5
  rcases j with _ | j
  · have e : y6 = v := by simpa using hj
    rw [← e]
    exact h6
  · simp at hj
theorem XL.cells {w : World} {a : Option Addr} {n : Nat} {F : Nat → Xt} (h : ∀ d, XL d w a n F) : ∃ C : Nat → List Value, ∀ i, i < n → (∃ b o, a = some ⟨b, o, none⟩ ∧ (C i).length = 6 ∧ (C i).toArray.all (·.oneCell') = true ∧ ∀ w', Below w.heap.size w w' → w'.rangeAt b (o + i * 6) (C i)) ∧ XV w (.agg (C i).toArray) (F i) := by
  refine pickc (P := fun i X => (∃ b o, a = some ⟨b, o, none⟩ ∧ X.length = 6 ∧ X.toArray.all (·.oneCell') = true ∧ ∀ w', Below w.heap.size w w' → w'.rangeAt b (o + i * 6) X) ∧ XV w (.agg X.toArray) (F i)) [] (fun i hi => ?_)
  obtain ⟨b, o, kk, nl, nn, ll, cc, nx, ka, kc, e, hkid, hcl⟩ := XL.at_ h hi
  refine ⟨[.int .u8 (kk : Int), .int .i64 nn, .string nx, .slice ka nl kc, .int .i64 ll, .int .i64 cc], ⟨b, o, e, rfl, all6 rfl rfl rfl rfl rfl rfl, fun w' hb => ?_⟩, hkid⟩
  obtain ⟨k0, k1, k2, k3, k4, k5⟩ := hcl w' hb
  exact range6 k0 k1 k2 k3 k4 k5
theorem SL.cells {w : World} {a : Option Addr} {n : Nat} {F : Nat → St} (h : ∀ d, SL d w a n F) : ∃ C : Nat → List Value, ∀ i, i < n → (∃ b o, a = some ⟨b, o, none⟩ ∧ (C i).length = 7 ∧ (C i).toArray.all (·.oneCell') = true ∧ ∀ w', Below w.heap.size w w' → w'.rangeAt b (o + i * 7) (C i)) ∧ SV w (.agg (C i).toArray) (F i) := by
  refine pickc (P := fun i X => (∃ b o, a = some ⟨b, o, none⟩ ∧ X.length = 7 ∧ X.toArray.all (·.oneCell') = true ∧ ∀ w', Below w.heap.size w w' → w'.rangeAt b (o + i * 7) X) ∧ SV w (.agg X.toArray) (F i)) [] (fun i hi => ?_)
  obtain ⟨b, o, kk, na1, np1, nr1, ll, cc, nx, aa1, pa1, ra1, ca1, cp1, cr1, e, hkid, hcl⟩ := SL.at_ h hi
  refine ⟨[.int .u8 (kk : Int), .string nx, .slice aa1 na1 ca1, .slice pa1 np1 cp1, .slice ra1 nr1 cr1, .int .i64 ll, .int .i64 cc], ⟨b, o, e, rfl, all7 rfl rfl rfl rfl rfl rfl rfl, fun w' hb => ?_⟩, hkid⟩
  obtain ⟨k0, k1, k2, k3, k4, k5, k6⟩ := hcl w' hb
  exact range7 k0 k1 k2 k3 k4 k5 k6
set_option maxRecDepth 20000 in
set_option maxHeartbeats 2000000 in
theorem tsamexs (d : Nat) (IH : ∀ (w : World) (T U : Xt) (v u : Value), FinX d T → XV w v T → XV w u U → Calls Tryd.prog 73 #[v, u] w fun e w' => e = .returned (.bool (lkB d T U)) ∧ Below w.heap.size w w')
    (w : World) (a a' : Option Addr) (n n' c c' : Nat) (F G : Nat → Xt) (hF : ∀ i, i < n → FinX d (F i)) (hX : ∀ d, XL d w a n F) (hY : ∀ d, XL d w a' n' G) (hn : n ≤ 140737488351232) (hn' : n' ≤ 140737488351232) :
    Calls Tryd.prog 75 #[.slice a n c, .slice a' n' c'] w fun e w' => e = .returned (.bool (llB F G d n n')) ∧ Below w.heap.size w w' := by
  obtain ⟨C1, h1⟩ := XL.cells hX
  obtain ⟨C2, h2⟩ := XL.cells hY
  have HC := jhid9 (teq_x w a a' n n' c c' C1 C2 (fun i => lkB d (F i) (G i)) hn hn' (fun i hi => (h1 i hi).1) (fun i hi => (h2 i hi).1) (fun i hi hi' w' hb => IH w' (F i) (G i) _ _ (hF i hi) ((h1 i hi).2.later hb) ((h2 i hi').2.later hb)))
  have HL : Hid (llB F G d n n' = (decide (n = n') && alB (fun i => lkB d (F i) (G i)) n)) := rfl
  rw [HL.out]
  generalize (decide (n = n') && alB (fun i => lkB d (F i) (G i)) n) = r at *
  clear h1 h2 HL IH hX hY hF
  go_enter Tryd.func75, Tryd.ntmps75
  go_wp2_with (go_at_call 96; refine HC.out.mono ?_; rintro e w2 ⟨rfl, hb2⟩; have HB2 := jhid9 hb2; clear hb2)
  go_ret
  exact ⟨rfl, HB2.out⟩
set_option maxRecDepth 20000 in
set_option maxHeartbeats 4000000 in
theorem tsx_one (w : World) (k len cap k2 len2 cap2 : Nat) (n ln cl n2 ln2 cl2 : Int) (nm nm2 : ByteArray) (a a2 : Option Addr) (r : Bool)
    (HC : Hid (∀ w' : World, Below w.heap.size w w' → Calls Tryd.prog 75 #[.slice a len cap, .slice a2 len2 cap2] w' fun e w'' => e = .returned (.bool r) ∧ Below w'.heap.size w' w'')) :
    Calls Tryd.prog 73 #[.agg #[.int .u8 (k : Int), .int .i64 n, .string nm, .slice a len cap, .int .i64 ln, .int .i64 cl], .agg #[.int .u8 (k2 : Int), .int .i64 n2, .string nm2, .slice a2 len2 cap2, .int .i64 ln2, .int .i64 cl2]] w fun e w' => e = .returned (.bool (decide (k = k2) && (decide (n = n2) && (decide (nm = nm2) && r)))) ∧ Below w.heap.size w w' := by
  have e3 := tl_eq (x := nm) (y := nm2)
  have e1 : ((k : Int) == (k2 : Int)) = decide (k = k2) := by by_cases h : k = k2 <;> simp [h]; omega
  have e2 : (n == n2) = decide (n = n2) := by by_cases h : n = n2 <;> simp [h]
  generalize decide (k = k2) = b1 at *
  generalize decide (n = n2) = b2 at *
  generalize decide (nm = nm2) = b3 at *
  have HV1 := jhid9 ((Vn.new w 28 #[.int .u8 (k : Int), .int .i64 n, .string nm, .slice a len cap, .int .i64 ln, .int .i64 cl]).later (jlow _ (.cells #[.int .u8 (k2 : Int), .int .i64 n2, .string nm2, .slice a2 len2 cap2, .int .i64 ln2, .int .i64 cl2] 28)))
  have HV2 := jhid9 (Vn.new (w.alloc (.cells #[.int .u8 (k : Int), .int .i64 n, .string nm, .slice a len cap, .int .i64 ln, .int .i64 cl] 28)) 28 #[.int .u8 (k2 : Int), .int .i64 n2, .string nm2, .slice a2 len2 cap2, .int .i64 ln2, .int .i64 cl2])
  rw [alloc_size] at HV2
  have HB := jhid9 (jtwo (jlow w (.cells #[.int .u8 (k : Int), .int .i64 n, .string nm, .slice a len cap, .int .i64 ln, .int .i64 cl] 28)) (jlow _ (.cells #[.int .u8 (k2 : Int), .int .i64 n2, .string nm2, .slice a2 len2 cap2, .int .i64 ln2, .int .i64 cl2] 28)))
  have c0 := HV1.out.cell 0 _ rfl
  have d0 := HV2.out.cell 0 _ rfl
  have c1 := HV1.out.cell 1 _ rfl
  have d1 := HV2.out.cell 1 _ rfl
  have c2 := HV1.out.cell 2 _ rfl
  have d2 := HV2.out.cell 2 _ rfl
  have c3 := HV1.out.cell 3 _ rfl
  have d3 := HV2.out.cell 3 _ rfl
  have c4 := HV1.out.cell 4 _ rfl
  have d4 := HV2.out.cell 4 _ rfl
  have c5 := HV1.out.cell 5 _ rfl
  have d5 := HV2.out.cell 5 _ rfl
  cases b1 with
  | false =>
    show Calls _ _ _ _ fun e w' => e = .returned (.bool false) ∧ _
    go_enter Tryd.func73, Tryd.ntmps73
    go_wp2
    go_ret
    exact ⟨rfl, HB.out⟩
  | true =>
   cases b2 with
   | false =>
     show Calls _ _ _ _ fun e w' => e = .returned (.bool false) ∧ _
     go_enter Tryd.func73, Tryd.ntmps73
     go_wp2
     go_ret
     exact ⟨rfl, HB.out⟩
   | true =>
    cases b3 with
    | false =>
      show Calls _ _ _ _ fun e w' => e = .returned (.bool false) ∧ _
      go_enter Tryd.func73, Tryd.ntmps73
      go_wp2
      go_ret
      exact ⟨rfl, HB.out⟩
    | true =>
     show Calls _ _ _ _ fun e w' => e = .returned (.bool r) ∧ _
     go_enter Tryd.func73, Tryd.ntmps73
     go_wp2_with (first
       | (go_at_call 75; refine (HC.out _ HB.out).mono ?_; rintro e w1 ⟨rfl, hb1⟩; have HB1 := jhid9 (jtwo HB.out hb1); clear hb1))
     go_ret
     exact ⟨rfl, HB1.out⟩
theorem tsamex : ∀ (d : Nat) (w : World) (T U : Xt) (v u : Value), FinX d T → XV w v T → XV w u U → Calls Tryd.prog 73 #[v, u] w fun e w' => e = .returned (.bool (lkB d T U)) ∧ Below w.heap.size w w' := by
  intro d
  induction d with
  | zero => intro w T U v u h; exact h.elim
  | succ d ih =>
    intro w T U v u hF hX hY
    have HX := jhid9 hX
    have HY := jhid9 hY
    obtain ⟨⟨a, cap, rfl, ha⟩, ok1⟩ := hX
    obtain ⟨⟨a2, cap2, rfl, ha2⟩, ok2⟩ := hY
    have h := tsx_one w (T []).k (T []).len cap (U []).k (U []).len cap2 (T []).n (T []).ln (T []).cl (U []).n (U []).ln (U []).cl (T []).nm (U []).nm a a2 (llB (kid T) (kid U) d (T []).len (U []).len)
      (fun w' hb => tsamexs d ih w' a a2 _ _ cap cap2 (kid T) (kid U) hF (fun e => (ha e).later hb) (fun e => (ha2 e).later hb) ok1.len47 ok2.len47)
    exact h
set_option maxRecDepth 20000 in
set_option maxHeartbeats 8000000 in
theorem teq_r (w : World) (a a' : Option Addr) (n n' c c' : Nat) (l1 l2 : Nat → Nat) (F G : Nat → Nat → Xt) (hn : n ≤ 140737488351232) (hn' : n' ≤ 140737488351232) (hl1 : ∀ i, i < n → l1 i ≤ 140737488351232) (hl2 : ∀ i, i < n' → l2 i ≤ 140737488351232) (hF : ∀ i, i < n → ∀ q, q < l1 i → FinX 16 (F i q)) (h1 : XR w a n l1 F) (h2 : XR w a' n' l2 G) :
    Calls Tryd.prog 95 #[.slice a n c, .slice a' n' c', .func (.func 75) #[] #[]] w fun e w' => e = .returned (.bool (decide (n = n') && alB (fun i => llB (F i) (G i) 16 (l1 i) (l2 i)) n)) ∧ Below w.heap.size w w' := by
  have H1 := jhid9 h1
  have H2 := jhid9 h2
  have HC : Hid (∀ i, i < n → i < n' → ∀ (w' : World) (x x' : Option Addr) (c c' : Nat), Below w.heap.size w w' → (∀ d, XL d w x (l1 i) (F i)) → (∀ d, XL d w x' (l2 i) (G i)) → Calls Tryd.prog 75 #[.slice x (l1 i) c, .slice x' (l2 i) c'] w' fun e w'' => e = .returned (.bool (llB (F i) (G i) 16 (l1 i) (l2 i))) ∧ Below w'.heap.size w' w'') := fun i hi hi' w' x x' c c' hb hx hx' => tsamexs 16 (tsamex 16) w' x x' _ _ c c' (F i) (G i) (hF i hi) (fun d => (hx d).later hb) (fun d => (hx' d).later hb) (hl1 i hi) (hl2 i hi')
  obtain ⟨B, HBf⟩ : ∃ B : Nat → Bool, Hid ((fun i => llB (F i) (G i) 16 (l1 i) (l2 i)) = B) := ⟨_, rfl⟩
  rw [HBf.out]
  have HBi : Hid (∀ i, llB (F i) (G i) 16 (l1 i) (l2 i) = B i) := fun i => congrFun HBf.out i
  clear h1 h2 hF
  by_cases hne : n = n'
  · subst hne
    have HD : Hid ((decide (n = n) && alB B n) = alB B n) := by show _ = _; simp
    rw [HD.out]
    clear HD
    go_enter Tryd.func95, Tryd.ntmps95
    go_wp2
    go_loopw [17] (fun vi wr => ∃ i : Nat, i ≤ n ∧ vi = .int .i64 (i : Int) ∧ Hid (alB B i = true) ∧ Below w.heap.size w wr) (fun vi _ => n - (intOf vi).toNat)
    case atStart => exact ⟨0, by omega, rfl, rfl, Below.refl _ _⟩
    case round =>
      obtain ⟨i, hi, rfl, HA, hb⟩ := hrel
      have HB := jhid9 hb
      by_cases hlt : i < n
      · have p0 : (0 : Int) ≤ (i : Int) := by omega
        have p1 : (i : Int) < (n : Int) := by omega
        obtain ⟨b1, q1, x1, c1, rfl, r1, y1⟩ := H1.out i hlt
        obtain ⟨b2, q2, x2, c2, rfl, r2, y2⟩ := H2.out i hlt
        have k1 := cell_kept r1 hb
        have k2 := cell_kept r2 hb
        have HCi := jhid9 (fun w' hb => HC.out i hlt hlt w' x1 x2 c1 c2 hb y1 y2)
        rw [HBi.out i] at HCi
        have HAs : Hid (alB B (i + 1) = B i) := by show (alB B i && B i) = B i; rw [HA.out, Bool.true_and]
        have HAf : Hid (alB B (i + 1) = false → alB B n = false) := fun h => alB_stop h hlt
        generalize l1 i = z1 at *
        generalize l2 i = z2 at *
        generalize B i = bi at *
        clear r1 r2 y1 y2 hb H1 H2 HC
        cases bi with
        | true =>
          go_wp2_with (go_at_call 75; refine (HCi.out _ HB.out).mono ?_; rintro e w3 ⟨rfl, hb3⟩; have HB3 := jhid9 (jtwo HB.out hb3); clear hb3)
          exact ⟨⟨i + 1, by omega, by go_num, HAs, HB3.out⟩, by simp [intOf]; omega⟩
        | false =>
          have HF : Hid (alB B n = false) := HAf.out HAs.out
          go_wp2_with (go_at_call 75; refine (HCi.out _ HB.out).mono ?_; rintro e w3 ⟨rfl, hb3⟩; have HB3 := jhid9 (jtwo HB.out hb3); clear hb3)
          go_ret
          exact ⟨by rw [HF.out]; rfl, HB3.out⟩
      · obtain rfl : i = n := by omega
        clear hb
        go_wp2
        go_ret
        exact ⟨by rw [HA.out]; rfl, HB.out⟩
  · have HD : Hid ((decide (n = n') && alB B n) = false) := by show _ = _; rw [decide_eq_false hne]; rfl
    rw [HD.out]
    have q : ((n : Int) == (n' : Int)) = false := by simp; omega
    have q2 : ((n : Int) != (n' : Int)) = true := by simp; omega
    go_enter Tryd.func95, Tryd.ntmps95
    go_wp2
    go_ret
    exact ⟨rfl, Below.refl _ _⟩
/-- A shape is at most d deep. -/
def FinS : Nat → St → Prop
  | 0, _ => False
  | d + 1, S => (∀ i, i < (S []).na → FinX 16 ((S []).args i)) ∧ (∀ i, i < (S []).nr → ∀ q, q < (S []).rl i → FinX 16 ((S []).rows i q)) ∧ ∀ i, i < (S []).np → FinS d (part S i)
theorem MS.fin : ∀ {d : Nat} {S : St}, MS d S → FinS d S := by
  intro d
  induction d with
  | zero => intro S h; obtain ⟨left, _, h⟩ := h; exact absurd h (by show ¬ (0 : Int) ≤ -1; omega)
  | succ d ih =>
    intro S h
    obtain ⟨_, h1, h2, h3⟩ := h.parts
    exact ⟨fun i hi => (h1 i hi).fin, fun i hi q hq => ((h2 i hi).2.2 q hq).fin, fun i hi => ih (h3 i hi)⟩
theorem ZS.fin {S : St} (h : ZS S) : FinS 16 S := ⟨fun i hi => by have := h.2.2.1; omega, fun i hi => by have := h.2.2.2.1; omega, fun i hi => by have := h.2.2.2.2; omega⟩
/-- The same shape but for places? -/
def lsB : Nat → St → St → Bool
  | 0, _, _ => true
  | d + 1, S, U => decide ((S []).k = (U []).k) && (decide ((S []).nm = (U []).nm) && (llB (S []).args (U []).args 16 (S []).na (U []).na && ((decide ((S []).np = (U []).np) && alB (fun i => lsB d (part S i) (part U i)) (S []).np) && (decide ((S []).nr = (U []).nr) && alB (fun i => llB ((S []).rows i) ((U []).rows i) 16 ((S []).rl i) ((U []).rl i)) (S []).nr))))
theorem ls_iff : ∀ (d : Nat) (S U : St), lsB d S U = true ↔ slk d S U := by
  intro d
  induction d with
  | zero => intro S U; exact ⟨fun _ => trivial, fun _ => rfl⟩
  | succ d ih =>
    intro S U
    have e : lsB (d + 1) S U = (decide ((S []).k = (U []).k) && (decide ((S []).nm = (U []).nm) && (llB (S []).args (U []).args 16 (S []).na (U []).na && ((decide ((S []).np = (U []).np) && alB (fun i => lsB d (part S i) (part U i)) (S []).np) && (decide ((S []).nr = (U []).nr) && alB (fun i => llB ((S []).rows i) ((U []).rows i) 16 ((S []).rl i) ((U []).rl i)) (S []).nr))))) := rfl
    rw [e]
    simp only [Bool.and_eq_true, decide_eq_true_eq, alB_iff, ih, ll_iff]
    exact ⟨fun ⟨h1, h2, ⟨h3, h4⟩, ⟨h5, h6⟩, h7, h8⟩ => ⟨h1, h2, h3, h4, h7, h8, h5, h6⟩, fun ⟨h1, h2, h3, h4, h7, h8, h5, h6⟩ => ⟨h1, h2, ⟨h3, h4⟩, ⟨h5, h6⟩, h7, h8⟩⟩
set_option maxRecDepth 20000 in
set_option maxHeartbeats 4000000 in
theorem tss_one (w : World) (k na ca np cp nr cr k2 na2 ca2 np2 cp2 nr2 cr2 : Nat) (ln cl ln2 cl2 : Int) (nm nm2 : ByteArray) (aa pa ra aa2 pa2 ra2 : Option Addr) (r1 r2 r3 : Bool)
    (HCa : Hid (∀ w' : World, Below w.heap.size w w' → Calls Tryd.prog 75 #[.slice aa na ca, .slice aa2 na2 ca2] w' fun e w'' => e = .returned (.bool r1) ∧ Below w'.heap.size w' w''))
    (HCp : Hid (∀ w' : World, Below w.heap.size w w' → Calls Tryd.prog 94 #[.slice pa np cp, .slice pa2 np2 cp2, .func (.func 74) #[] #[]] w' fun e w'' => e = .returned (.bool r2) ∧ Below w'.heap.size w' w''))
    (HCr : Hid (∀ w' : World, Below w.heap.size w w' → Calls Tryd.prog 95 #[.slice ra nr cr, .slice ra2 nr2 cr2, .func (.func 75) #[] #[]] w' fun e w'' => e = .returned (.bool r3) ∧ Below w'.heap.size w' w'')) :
    Calls Tryd.prog 74 #[.agg #[.int .u8 (k : Int), .string nm, .slice aa na ca, .slice pa np cp, .slice ra nr cr, .int .i64 ln, .int .i64 cl], .agg #[.int .u8 (k2 : Int), .string nm2, .slice aa2 na2 ca2, .slice pa2 np2 cp2, .slice ra2 nr2 cr2, .int .i64 ln2, .int .i64 cl2]] w fun e w' => e = .returned (.bool (decide (k = k2) && (decide (nm = nm2) && (r1 && (r2 && r3))))) ∧ Below w.heap.size w w' := by
  have e3 := tl_eq (x := nm) (y := nm2)
  have e1 : ((k : Int) == (k2 : Int)) = decide (k = k2) := by by_cases h : k = k2 <;> simp [h]; omega
  generalize decide (k = k2) = b1 at *
  generalize decide (nm = nm2) = b3 at *
  have HV1 := jhid9 ((Vn.new w 33 #[.int .u8 (k : Int), .string nm, .slice aa na ca, .slice pa np cp, .slice ra nr cr, .int .i64 ln, .int .i64 cl]).later (jlow _ (.cells #[.int .u8 (k2 : Int), .string nm2, .slice aa2 na2 ca2, .slice pa2 np2 cp2, .slice ra2 nr2 cr2, .int .i64 ln2, .int .i64 cl2] 33)))
  have HV2 := jhid9 (Vn.new (w.alloc (.cells #[.int .u8 (k : Int), .string nm, .slice aa na ca, .slice pa np cp, .slice ra nr cr, .int .i64 ln, .int .i64 cl] 33)) 33 #[.int .u8 (k2 : Int), .string nm2, .slice aa2 na2 ca2, .slice pa2 np2 cp2, .slice ra2 nr2 cr2, .int .i64 ln2, .int .i64 cl2])
  rw [alloc_size] at HV2
  have HB := jhid9 (jtwo (jlow w (.cells #[.int .u8 (k : Int), .string nm, .slice aa na ca, .slice pa np cp, .slice ra nr cr, .int .i64 ln, .int .i64 cl] 33)) (jlow _ (.cells #[.int .u8 (k2 : Int), .string nm2, .slice aa2 na2 ca2, .slice pa2 np2 cp2, .slice ra2 nr2 cr2, .int .i64 ln2, .int .i64 cl2] 33)))
  have c0 := HV1.out.cell 0 _ rfl
  have d0 := HV2.out.cell 0 _ rfl
  have c1 := HV1.out.cell 1 _ rfl
  have d1 := HV2.out.cell 1 _ rfl
  have c2 := HV1.out.cell 2 _ rfl
  have d2 := HV2.out.cell 2 _ rfl
  have c3 := HV1.out.cell 3 _ rfl
  have d3 := HV2.out.cell 3 _ rfl
  have c4 := HV1.out.cell 4 _ rfl
  have d4 := HV2.out.cell 4 _ rfl
  have c5 := HV1.out.cell 5 _ rfl
  have d5 := HV2.out.cell 5 _ rfl
  have c6 := HV1.out.cell 6 _ rfl
  have d6 := HV2.out.cell 6 _ rfl
  cases b1 with
  | false =>
    show Calls _ _ _ _ fun e w' => e = .returned (.bool false) ∧ _
    go_enter Tryd.func74, Tryd.ntmps74
    go_wp2
    go_ret
    exact ⟨rfl, HB.out⟩
  | true =>
   cases b3 with
   | false =>
     show Calls _ _ _ _ fun e w' => e = .returned (.bool false) ∧ _
     go_enter Tryd.func74, Tryd.ntmps74
     go_wp2
     go_ret
     exact ⟨rfl, HB.out⟩
   | true =>
    cases r1 with
    | false =>
      show Calls _ _ _ _ fun e w' => e = .returned (.bool false) ∧ _
      go_enter Tryd.func74, Tryd.ntmps74
      go_wp2_with (first
        | (go_at_call 75; refine (HCa.out _ HB.out).mono ?_; rintro e w1 ⟨rfl, hb1⟩; have HB1 := jhid9 (jtwo HB.out hb1); have HV1a := jhid9 (HV1.out.later hb1); have HV2a := jhid9 (HV2.out.later hb1); clear hb1; have f3 := HV1a.out.cell 3 _ rfl; have f4 := HV1a.out.cell 4 _ rfl; have g3 := HV2a.out.cell 3 _ rfl; have g4 := HV2a.out.cell 4 _ rfl))
      go_ret
      exact ⟨rfl, HB1.out⟩
    | true =>
     cases r2 with
     | false =>
       show Calls _ _ _ _ fun e w' => e = .returned (.bool false) ∧ _
       go_enter Tryd.func74, Tryd.ntmps74
       go_wp2_with (first
         | (go_at_call 75; refine (HCa.out _ HB.out).mono ?_; rintro e w1 ⟨rfl, hb1⟩; have HB1 := jhid9 (jtwo HB.out hb1); have HV1a := jhid9 (HV1.out.later hb1); have HV2a := jhid9 (HV2.out.later hb1); clear hb1; have f3 := HV1a.out.cell 3 _ rfl; have f4 := HV1a.out.cell 4 _ rfl; have g3 := HV2a.out.cell 3 _ rfl; have g4 := HV2a.out.cell 4 _ rfl)
         | (go_at_call 94; refine (HCp.out _ HB1.out).mono ?_; rintro e w2 ⟨rfl, hb2⟩; have HB2 := jhid9 (jtwo HB1.out hb2); have HV1b := jhid9 (HV1a.out.later hb2); have HV2b := jhid9 (HV2a.out.later hb2); clear hb2; have h4 := HV1b.out.cell 4 _ rfl; have i4 := HV2b.out.cell 4 _ rfl))
       go_ret
       exact ⟨rfl, HB2.out⟩
     | true =>
      show Calls _ _ _ _ fun e w' => e = .returned (.bool r3) ∧ _
      go_enter Tryd.func74, Tryd.ntmps74
      go_wp2_with (first
        | (go_at_call 75; refine (HCa.out _ HB.out).mono ?_; rintro e w1 ⟨rfl, hb1⟩; have HB1 := jhid9 (jtwo HB.out hb1); have HV1a := jhid9 (HV1.out.later hb1); have HV2a := jhid9 (HV2.out.later hb1); clear hb1; have f3 := HV1a.out.cell 3 _ rfl; have f4 := HV1a.out.cell 4 _ rfl; have g3 := HV2a.out.cell 3 _ rfl; have g4 := HV2a.out.cell 4 _ rfl)
        | (go_at_call 94; refine (HCp.out _ HB1.out).mono ?_; rintro e w2 ⟨rfl, hb2⟩; have HB2 := jhid9 (jtwo HB1.out hb2); have HV1b := jhid9 (HV1a.out.later hb2); have HV2b := jhid9 (HV2a.out.later hb2); clear hb2; have h4 := HV1b.out.cell 4 _ rfl; have i4 := HV2b.out.cell 4 _ rfl)
        | (go_at_call 95; refine (HCr.out _ HB2.out).mono ?_; rintro e w3 ⟨rfl, hb3⟩; have HB3 := jhid9 (jtwo HB2.out hb3); clear hb3))
      go_ret
      exact ⟨rfl, HB3.out⟩
theorem tsames : ∀ (d : Nat) (w : World) (S U : St) (v u : Value), FinS d S → SV w v S → SV w u U → Calls Tryd.prog 74 #[v, u] w fun e w' => e = .returned (.bool (lsB d S U)) ∧ Below w.heap.size w w' := by
  intro d
  induction d with
  | zero => intro w S U v u h; exact h.elim
  | succ d ih =>
    intro w S U v u hF hX hY
    obtain ⟨⟨aa, pa, ra, ca, cp, cr, rfl, ha, hr, hp⟩, ok1⟩ := hX
    obtain ⟨⟨aa2, pa2, ra2, ca2, cp2, cr2, rfl, ha2, hr2, hp2⟩, ok2⟩ := hY
    obtain ⟨C1, h1⟩ := SL.cells hp
    obtain ⟨C2, h2⟩ := SL.cells hp2
    have h := tss_one w (S []).k (S []).na ca (S []).np cp (S []).nr cr (U []).k (U []).na ca2 (U []).np cp2 (U []).nr cr2 (S []).ln (S []).cl (U []).ln (U []).cl (S []).nm (U []).nm aa pa ra aa2 pa2 ra2 _ _ _
      (fun w' hb => tsamexs 16 (tsamex 16) w' aa aa2 _ _ ca ca2 _ _ hF.1 (fun e => (ha e).later hb) (fun e => (ha2 e).later hb) ok1.na47 ok2.na47)
      (fun w' hb => teq_s w' pa pa2 _ _ cp cp2 C1 C2 (fun i => lsB d (part S i) (part U i)) ok1.np47 ok2.np47 (fun i hi => by obtain ⟨b, o, e, l, al, rg⟩ := (h1 i hi).1; exact ⟨b, o, e, l, al, fun w2 hb2 => rg w2 (jtwo hb hb2)⟩) (fun i hi => by obtain ⟨b, o, e, l, al, rg⟩ := (h2 i hi).1; exact ⟨b, o, e, l, al, fun w2 hb2 => rg w2 (jtwo hb hb2)⟩) (fun i hi hi' w2 hb2 => ih w2 (part S i) (part U i) _ _ (hF.2.2 i hi) ((h1 i hi).2.later (jtwo hb hb2)) ((h2 i hi').2.later (jtwo hb hb2))))
      (fun w' hb => teq_r w' ra ra2 _ _ cr cr2 _ _ _ _ ok1.nr47 ok2.nr47 ok1.rl47 ok2.rl47 hF.2.1 (hr.later hb) (hr2.later hb))
    exact h
end Go.Proofs.YtdimkfcanegahaaDoor
