/-
  Contracts of the law's own functions: bareExpr, bareShape, bare.
-/
import Derived.Test.YtdimkfcanegahaaDoorFt
namespace Go.Proofs.YtdimkfcanegahaaDoor
open Go.RowKit
set_option maxRecDepth 20000 in
set_option maxHeartbeats 4000000 in
theorem lbarex : ∀ (d : Nat) (w : World) (T : Xt) (v : Value), SmX d T → XV w v (xst T) → Calls Tryd.prog 48 #[v] w fun e w' => e = .returned (.bool true) ∧ Below w.heap.size w w' := by
  intro d
  induction d with
  | zero => intro w T v h; exact h.elim
  | succ d ih =>
    intro w T v hs hX
    obtain ⟨⟨a, cap, rfl, hXl⟩, hok⟩ := hX
    have h64 : (T []).len ≤ 64 := hs.1
    have HXl : Hid (∀ d, XL d w a (T []).len (kid (xst T))) := hXl
    have HC : Hid (∀ (i : Nat) (w' : World) (v : Value), i < (T []).len → Below w.heap.size w w' → XV w v (kid (xst T) i) → Calls Tryd.prog 48 #[v] w' fun e w'' => e = .returned (.bool true) ∧ Below w'.heap.size w' w'') := fun i w' v hi hb hv => ih w' (kid T i) v (hs.2 i hi) (hv.later hb)
    clear ih hXl hs hok
    generalize kid (xst T) = G at *
    show Calls _ _ #[.agg #[.int .u8 ((T []).k : Int), .int .i64 (T []).n, .string (T []).nm, .slice a (T []).len cap, .int .i64 0, .int .i64 0]] _ _
    generalize T [] = l at *
    obtain ⟨k, n, nm, len, ln, cl⟩ := l
    replace h64 : len ≤ 64 := h64
    replace HXl : Hid (∀ d, XL d w a len G) := HXl
    replace HC : Hid (∀ (i : Nat) (w' : World) (v : Value), i < len → Below w.heap.size w w' → XV w v (G i) → Calls Tryd.prog 48 #[v] w' fun e w'' => e = .returned (.bool true) ∧ Below w'.heap.size w' w'') := HC
    show Calls _ _ #[.agg #[.int .u8 (k : Int), .int .i64 n, .string nm, .slice a len cap, .int .i64 0, .int .i64 0]] _ _
    have HV := jhid9 (Vn.new w 28 #[.int .u8 (k : Int), .int .i64 n, .string nm, .slice a len cap, .int .i64 0, .int .i64 0])
    go_enter Tryd.func48, Tryd.ntmps48
    go_wp2
    go_loopw [3] (fun vi wr => ∃ i : Nat, i ≤ len ∧ vi = .int .i64 (i : Int) ∧ Vn wr w.heap.size 28 #[.int .u8 (k : Int), .int .i64 n, .string nm, .slice a len cap, .int .i64 0, .int .i64 0] ∧ Below w.heap.size w wr) (fun vi _ => len - (intOf vi).toNat)
    case atStart => exact ⟨0, by omega, rfl, HV.out, jlow _ _⟩
    case round =>
      obtain ⟨i, hi, rfl, hv, hb⟩ := hrel
      have HB := jhid9 hb
      have HVr := jhid9 hv
      have c3 := hv.cell 3 _ rfl
      have c4 := hv.cell 4 _ rfl
      have c5 := hv.cell 5 _ rfl
      clear hv
      by_cases hlt : i < len
      · obtain ⟨b, o, kk, nl, nn, ll, cc, nx, ka, kc, rfl, hkid, hcl⟩ := XL.at_ HXl.out (i := i) hlt
        obtain ⟨k0, k1, k2, k3, k4, k5⟩ := hcl _ hb
        have HCi := jhid9 (fun w' hb => HC.out i w' _ hlt hb hkid)
        have p0 : (0 : Int) ≤ (i : Int) := by omega
        have p1 : (i : Int) < (len : Int) := by omega
        clear hkid hcl hb
        go_wp2_with (go_at_call 48; refine (HCi.out _ HB.out).mono ?_; rintro e w2 ⟨rfl, hb2⟩; have HB2 := jhid9 (jtwo HB.out hb2); have HV2 := jhid9 (HVr.out.later hb2); clear hb2)
        exact ⟨⟨i + 1, by omega, by go_num, HV2.out, HB2.out⟩, by simp [intOf]; omega⟩
      · obtain rfl : i = len := by omega
        clear hb
        go_wp2
        go_ret
        exact ⟨rfl, HB.out⟩
set_option maxRecDepth 20000 in
set_option maxHeartbeats 16000000 in
theorem lbares : ∀ (d : Nat) (w : World) (S : St) (v : Value), SmS d S → SV w v (sst S) → Calls Tryd.prog 49 #[v] w fun e w' => e = .returned (.bool true) ∧ Below w.heap.size w w' := by
  intro d
  induction d with
  | zero => intro w S v h; exact h.elim
  | succ d ih =>
    intro w S v hs hX
    obtain ⟨⟨aa, pa, ra, ca, cp, cr, rfl, hA, hR, hP⟩, hok⟩ := hX
    obtain ⟨s1, s2, s3, s4, s5, s6⟩ := hs
    have HXa : Hid (∀ d, XL d w aa (S []).na (fun i => xst ((S []).args i))) := hA
    have HXr : Hid (XR w ra (S []).nr (S []).rl (fun i j => xst ((S []).rows i j))) := hR
    have HXp : Hid (∀ d, SL d w pa (S []).np (part (sst S))) := hP
    have HRl : Hid (∀ i, i < (S []).nr → (S []).rl i ≤ 64) := fun i hi => (s4 i hi).1
    have HCa : Hid (∀ (i : Nat) (w' : World) (v : Value), i < (S []).na → Below w.heap.size w w' → XV w v (xst ((S []).args i)) → Calls Tryd.prog 48 #[v] w' fun e w'' => e = .returned (.bool true) ∧ Below w'.heap.size w' w'') := fun i w' v hi hb hv => lbarex 16 w' _ v (s2 i hi) (hv.later hb)
    have HCr : Hid (∀ (i j : Nat) (w' : World) (v : Value), i < (S []).nr → j < (S []).rl i → Below w.heap.size w w' → XV w v (xst ((S []).rows i j)) → Calls Tryd.prog 48 #[v] w' fun e w'' => e = .returned (.bool true) ∧ Below w'.heap.size w' w'') := fun i j w' v hi hj hb hv => lbarex 16 w' _ v ((s4 i hi).2 j hj) (hv.later hb)
    have HCp : Hid (∀ (i : Nat) (w' : World) (v : Value), i < (S []).np → Below w.heap.size w w' → SV w v (part (sst S) i) → Calls Tryd.prog 49 #[v] w' fun e w'' => e = .returned (.bool true) ∧ Below w'.heap.size w' w'') := fun i w' v hi hb hv => ih w' (part S i) v (s6 i hi) (hv.later hb)
    clear ih hA hR hP hok s2 s4 s6
    generalize part (sst S) = GP at *
    show Calls _ _ #[.agg #[.int .u8 ((S []).k : Int), .string (S []).nm, .slice aa (S []).na ca, .slice pa (S []).np cp, .slice ra (S []).nr cr, .int .i64 0, .int .i64 0]] _ _
    generalize S [] = l at *
    obtain ⟨k, nm, na, args, np, nr, rl, rows, ln, cl⟩ := l
    replace s1 : na ≤ 64 := s1
    replace s3 : nr ≤ 64 := s3
    replace s5 : np ≤ 64 := s5
    replace HXa : Hid (∀ d, XL d w aa na (fun i => xst (args i))) := HXa
    replace HXr : Hid (XR w ra nr rl (fun i j => xst (rows i j))) := HXr
    replace HXp : Hid (∀ d, SL d w pa np GP) := HXp
    replace HRl : Hid (∀ i, i < nr → rl i ≤ 64) := HRl
    replace HCa : Hid (∀ (i : Nat) (w' : World) (v : Value), i < na → Below w.heap.size w w' → XV w v (xst (args i)) → Calls Tryd.prog 48 #[v] w' fun e w'' => e = .returned (.bool true) ∧ Below w'.heap.size w' w'') := HCa
    replace HCr : Hid (∀ (i j : Nat) (w' : World) (v : Value), i < nr → j < rl i → Below w.heap.size w w' → XV w v (xst (rows i j)) → Calls Tryd.prog 48 #[v] w' fun e w'' => e = .returned (.bool true) ∧ Below w'.heap.size w' w'') := HCr
    replace HCp : Hid (∀ (i : Nat) (w' : World) (v : Value), i < np → Below w.heap.size w w' → SV w v (GP i) → Calls Tryd.prog 49 #[v] w' fun e w'' => e = .returned (.bool true) ∧ Below w'.heap.size w' w'') := HCp
    show Calls _ _ #[.agg #[.int .u8 (k : Int), .string nm, .slice aa na ca, .slice pa np cp, .slice ra nr cr, .int .i64 0, .int .i64 0]] _ _
    have HV := jhid9 (Vn.new w 33 #[.int .u8 (k : Int), .string nm, .slice aa na ca, .slice pa np cp, .slice ra nr cr, .int .i64 0, .int .i64 0])
    go_enter Tryd.func49, Tryd.ntmps49
    go_wp2
    go_loopw [3] (fun vi wr => ∃ i : Nat, i ≤ na ∧ vi = .int .i64 (i : Int) ∧ Vn wr w.heap.size 33 #[.int .u8 (k : Int), .string nm, .slice aa na ca, .slice pa np cp, .slice ra nr cr, .int .i64 0, .int .i64 0] ∧ Below w.heap.size w wr) (fun vi _ => na - (intOf vi).toNat)
    case atStart => exact ⟨0, by omega, rfl, HV.out, jlow _ _⟩
    case round =>
      obtain ⟨i, hi, rfl, hv, hb⟩ := hrel
      have HB := jhid9 hb
      have HVr := jhid9 hv
      have c2 := hv.cell 2 _ rfl
      clear hv
      by_cases hlt : i < na
      · obtain ⟨b, o, kk, nl, nn, ll, cc, nx, ka, kc, rfl, hkid, hcl⟩ := XL.at_ HXa.out (i := i) hlt
        obtain ⟨k0, k1, k2, k3, k4, k5⟩ := hcl _ hb
        have HCi := jhid9 (fun w' hb => HCa.out i w' _ hlt hb hkid)
        have p0 : (0 : Int) ≤ (i : Int) := by omega
        have p1 : (i : Int) < (na : Int) := by omega
        clear hkid hcl hb
        go_wp2_with (go_at_call 48; refine (HCi.out _ HB.out).mono ?_; rintro e w2 ⟨rfl, hb2⟩; have HB2 := jhid9 (jtwo HB.out hb2); have HV2 := jhid9 (HVr.out.later hb2); clear hb2)
        exact ⟨⟨i + 1, by omega, by go_num, HV2.out, HB2.out⟩, by simp [intOf]; omega⟩
      · obtain rfl : na = i := by omega
        clear hb
        go_wp2
        go_loopw [4] (fun vi wr => ∃ i : Nat, i ≤ np ∧ vi = .int .i64 (i : Int) ∧ Vn wr w.heap.size 33 #[.int .u8 (k : Int), .string nm, .slice aa na ca, .slice pa np cp, .slice ra nr cr, .int .i64 0, .int .i64 0] ∧ Below w.heap.size w wr) (fun vi _ => np - (intOf vi).toNat)
        case atStart => exact ⟨0, by omega, rfl, HVr.out, HB.out⟩
        case round =>
          obtain ⟨j, hj, rfl, hv, hb⟩ := hrel
          have HB := jhid9 hb
          have HVr := jhid9 hv
          have c3 := hv.cell 3 _ rfl
          clear hv c2
          by_cases hlt2 : j < np
          · obtain ⟨b, o, kk, na1, np1, nr1, ll, cc, nx, aa1, pa1, ra1, ca1, cp1, cr1, rfl, hkid, hcl⟩ := SL.at_ HXp.out (i := j) hlt2
            obtain ⟨k0, k1, k2, k3, k4, k5, k6⟩ := hcl _ hb
            have HCi := jhid9 (fun w' hb => HCp.out j w' _ hlt2 hb hkid)
            have p0 : (0 : Int) ≤ (j : Int) := by omega
            have p1 : (j : Int) < (np : Int) := by omega
            clear hkid hcl hb
            go_wp2_with (go_at_call 49; refine (HCi.out _ HB.out).mono ?_; rintro e w2 ⟨rfl, hb2⟩; have HB2 := jhid9 (jtwo HB.out hb2); have HV2 := jhid9 (HVr.out.later hb2); clear hb2)
            exact ⟨⟨j + 1, by omega, by go_num, HV2.out, HB2.out⟩, by simp [intOf]; omega⟩
          · obtain rfl : np = j := by omega
            clear hb
            go_wp2
            go_loopw [5] (fun vi wr => ∃ i : Nat, i ≤ nr ∧ vi = .int .i64 (i : Int) ∧ Vn wr w.heap.size 33 #[.int .u8 (k : Int), .string nm, .slice aa na ca, .slice pa np cp, .slice ra nr cr, .int .i64 0, .int .i64 0] ∧ Below w.heap.size w wr) (fun vi _ => nr - (intOf vi).toNat)
            case atStart => exact ⟨0, by omega, rfl, HVr.out, HB.out⟩
            case round =>
              obtain ⟨r, hr, rfl, hv, hb⟩ := hrel
              have HB := jhid9 hb
              have HVr := jhid9 hv
              have c4 := hv.cell 4 _ rfl
              have c5 := hv.cell 5 _ rfl
              have c6 := hv.cell 6 _ rfl
              clear hv c3
              by_cases hlt3 : r < nr
              · have p0 : (0 : Int) ≤ (r : Int) := by omega
                have p1 : (r : Int) < (nr : Int) := by omega
                obtain ⟨b, o, x, xc, rfl, hc, hxl⟩ := HXr.out r hlt3
                have HXl := jhid9 hxl
                have hm := HRl.out r hlt3
                have HCi := jhid9 (fun j w' v hj hb hv => HCr.out r j w' v hlt3 hj hb hv)
                have hcc := cell_kept hc HB.out
                have Hc := jhid9 hc
                clear hc hxl hb
                obtain ⟨m, Hm⟩ : ∃ m, Hid (rl r = m) := ⟨_, rfl⟩
                rw [Hm.out] at hcc HXl HCi hm Hc
                clear Hm
                go_wp2
                go_loopw [6] (fun vi wr => ∃ i : Nat, i ≤ m ∧ vi = .int .i64 (i : Int) ∧ Vn wr w.heap.size 33 #[.int .u8 (k : Int), .string nm, .slice aa na ca, .slice pa np cp, .slice (some ⟨b, o, none⟩) nr cr, .int .i64 0, .int .i64 0] ∧ Below w.heap.size w wr) (fun vi _ => m - (intOf vi).toNat)
                case atStart => exact ⟨0, by omega, rfl, HVr.out, HB.out⟩
                case round =>
                  obtain ⟨q, hq, rfl, hv, hb⟩ := hrel
                  have HB := jhid9 hb
                  have HVr := jhid9 hv
                  have f4 := hv.cell 4 _ rfl
                  have fcc := cell_kept Hc.out hb
                  clear hv c4 c5 c6 hcc
                  by_cases hlt4 : q < m
                  · obtain ⟨b1, o1, kk, nl, nn, ll, cc, nx, ka, kc, rfl, hkid, hcl⟩ := XL.at_ HXl.out (i := q) hlt4
                    obtain ⟨k0, k1, k2, k3, k4, k5⟩ := hcl _ hb
                    have HCj := jhid9 (fun w' hb => HCi.out q w' _ hlt4 hb hkid)
                    have p2 : (0 : Int) ≤ (q : Int) := by omega
                    have p3 : (q : Int) < (m : Int) := by omega
                    clear hkid hcl hb
                    go_wp2_with (go_at_call 48; refine (HCj.out _ HB.out).mono ?_; rintro e w2 ⟨rfl, hb2⟩; have HB2 := jhid9 (jtwo HB.out hb2); have HV2 := jhid9 (HVr.out.later hb2); clear hb2)
                    exact ⟨⟨q + 1, by omega, by go_num, HV2.out, HB2.out⟩, by simp [intOf]; omega⟩
                  · obtain rfl : q = m := by omega
                    clear hb
                    go_wp2
                    exact ⟨⟨r + 1, by omega, by go_num, HVr.out, HB.out⟩, by simp [intOf]; omega⟩
              · obtain rfl : nr = r := by omega
                clear hb
                go_wp2
                go_ret
                exact ⟨rfl, HB.out⟩
set_option maxRecDepth 20000 in
set_option maxHeartbeats 16000000 in
theorem lbare (w : World) (a : Option Addr) (n c : Nat) (F : Nat → It) (hI : Its w a n (fun i => ist (F i))) (hn : n ≤ 64) (hs : ∀ i, i < n → SmX 16 (F i).val ∧ SmS 16 (F i).shp ∧ (F i).nl ≤ 64 ∧ ∀ q, q < (F i).nl → SmX 16 ((F i).list q)) :
    Calls Tryd.prog 25 #[.slice a n c] w fun e w' => e = .returned (.bool true) ∧ Below w.heap.size w w' := by
  have HI := jhid9 hI
  have HS := jhid9 hs
  clear hI hs
  go_enter Tryd.func25, Tryd.ntmps25
  go_wp2
  go_loopw [3] (fun vi wr => ∃ i : Nat, i ≤ n ∧ vi = .int .i64 (i : Int) ∧ Below w.heap.size w wr) (fun vi _ => n - (intOf vi).toNat)
  case atStart => exact ⟨0, by omega, rfl, Below.refl _ _⟩
  case round =>
    obtain ⟨i, hi, rfl, hb⟩ := hrel
    have HB := jhid9 hb
    by_cases hlt : i < n
    · have p0 : (0 : Int) ≤ (i : Int) := by omega
      have p1 : (i : Int) < (n : Int) := by omega
      obtain ⟨b, o, k, pl, nl, vk, vl, vc, sk, na, ca, np, cp, nr, cr, lc, nm, vm, sm, vn, vln, vcl, sln, scl, ln, cl, va, aa, pa, ra, la, T, S, G, rfl, hF, hT, hS, hG, k8, p8, hnm, hnl, hcl⟩ := HI.out.at_ hlt
      obtain ⟨t1, t2, t3, t4⟩ := HS.out i hlt
      obtain ⟨rfl, rfl, rfl, rfl, rfl, rfl⟩ : T = xst (F i).val ∧ S = sst (F i).shp ∧ nl = (F i).nl ∧ G = (fun q => xst ((F i).list q)) ∧ ln = 0 ∧ cl = 0 := by
        have h := hF
        unfold ist at h
        simp only [It.mk.injEq] at h
        obtain ⟨_, _, h1, h2, _, h3, h4, h5, h6⟩ := h
        exact ⟨h1.symm, h2.symm, h3.symm, h4.symm, h5.symm, h6.symm⟩
      have HCv : Hid (∀ w' : World, Below w.heap.size w w' → Calls Tryd.prog 48 #[.agg #[.int .u8 (vk : Int), .int .i64 vn, .string vm, .slice va vl vc, .int .i64 vln, .int .i64 vcl]] w' fun e w'' => e = .returned (.bool true) ∧ Below w'.heap.size w' w'') := fun w' hb => lbarex 16 w' _ _ t1 (hT.later hb)
      have HCs : Hid (∀ w' : World, Below w.heap.size w w' → Calls Tryd.prog 49 #[.agg #[.int .u8 (sk : Int), .string sm, .slice aa na ca, .slice pa np cp, .slice ra nr cr, .int .i64 sln, .int .i64 scl]] w' fun e w'' => e = .returned (.bool true) ∧ Below w'.heap.size w' w'') := fun w' hb => lbares 16 w' _ _ t2 (hS.later hb)
      have HCl : Hid (∀ (q : Nat) (w' : World) (v : Value), q < (F i).nl → Below w.heap.size w w' → XV w v (xst ((F i).list q)) → Calls Tryd.prog 48 #[v] w' fun e w'' => e = .returned (.bool true) ∧ Below w'.heap.size w' w'') := fun q w' v hq hb hv => lbarex 16 w' _ v (t4 q hq) (hv.later hb)
      have HXl := jhid9 hG
      have HRg := jhid9 (hcl _ hb)
      clear hcl hT hS hG hF hb t1 t2 t4
      obtain ⟨m, Hm⟩ : ∃ m, Hid ((F i).nl = m) := ⟨_, rfl⟩
      rw [Hm.out] at HCl HXl HRg t3 hnl
      clear Hm
      have M1 : True := trivial
      have M2 : True := trivial
      go_wp2_with (first
        | (clear M1; refine wpList_load_mid rfl 36 _ rfl b _ rfl [.int .u8 (k : Int), .string nm, .int .u8 (vk : Int), .int .i64 vn, .string vm, .slice va vl vc, .int .i64 vln, .int .i64 vcl, .int .u8 (sk : Int), .string sm, .slice aa na ca, .slice pa np cp, .slice ra nr cr, .int .i64 sln, .int .i64 scl, .int .u8 (pl : Int), .slice la m lc, .int .i64 0, .int .i64 0] _ HRg.out Tryd.underlying36 rfl sizeI ?_)
        | (clear M2; refine wpList_store_vn rfl 36 _ _ rfl wr.heap.size _ #[.int .u8 (k : Int), .string nm, .int .u8 (vk : Int), .int .i64 vn, .string vm, .slice va vl vc, .int .i64 vln, .int .i64 vcl, .int .u8 (sk : Int), .string sm, .slice aa na ca, .slice pa np cp, .slice ra nr cr, .int .i64 sln, .int .i64 scl, .int .u8 (pl : Int), .slice la m lc, .int .i64 0, .int .i64 0] rfl rfl (Vn.new wr _ _) sizeI rfl (all19 rfl rfl rfl rfl rfl rfl rfl rfl rfl rfl rfl rfl rfl rfl rfl rfl rfl rfl rfl) ?_; intro w1 HV1 hg1; have hb1 : Below wr.heap.size wr w1 := (jlow _ _).trans (jbelow hg1.out (jlow _ _).size (fun g e => by cases e; exact Nat.le_refl _)); have HB1 := jhid9 (jtwo HB.out hb1); clear hg1 hb1; have m17 := HV1.out.cell 17 _ rfl; have m18 := HV1.out.cell 18 _ rfl; have m2 := HV1.out.cell 2 _ rfl; have m3 := HV1.out.cell 3 _ rfl; have m4 := HV1.out.cell 4 _ rfl; have m5 := HV1.out.cell 5 _ rfl; have m6 := HV1.out.cell 6 _ rfl; have m7 := HV1.out.cell 7 _ rfl)
        | (go_at_call 48; refine (HCv.out _ HB1.out).mono ?_; rintro e w2 ⟨rfl, hb2⟩; have HB2 := jhid9 (jtwo HB1.out hb2); have HV2 := jhid9 (HV1.out.later hb2); clear hb2; have f8 := HV2.out.cell 8 _ rfl; have f9 := HV2.out.cell 9 _ rfl; have f10 := HV2.out.cell 10 _ rfl; have f11 := HV2.out.cell 11 _ rfl; have f12 := HV2.out.cell 12 _ rfl; have f13 := HV2.out.cell 13 _ rfl; have f14 := HV2.out.cell 14 _ rfl)
        | (go_at_call 49; refine (HCs.out _ HB2.out).mono ?_; rintro e w3 ⟨rfl, hb3⟩; have HB3 := jhid9 (jtwo HB2.out hb3); have HV3 := jhid9 (HV2.out.later hb3); clear hb3))
      clear m2 m3 m4 m5 m6 m7 m17 m18 f8 f9 f10 f11 f12 f13 f14
      go_loopw [5] (fun vi wq => ∃ q : Nat, q ≤ m ∧ vi = .int .i64 (q : Int) ∧ Hid (Vn wq wr.heap.size 36 #[.int .u8 (k : Int), .string nm, .int .u8 (vk : Int), .int .i64 vn, .string vm, .slice va vl vc, .int .i64 vln, .int .i64 vcl, .int .u8 (sk : Int), .string sm, .slice aa na ca, .slice pa np cp, .slice ra nr cr, .int .i64 sln, .int .i64 scl, .int .u8 (pl : Int), .slice la m lc, .int .i64 0, .int .i64 0]) ∧ Hid (Below w.heap.size w wq)) (fun vi _ => m - (intOf vi).toNat)
      case atStart => exact ⟨0, by omega, rfl, HV3, HB3⟩
      case round =>
        obtain ⟨q, hq, rfl, HVq, HBq⟩ := hrel
        have c16 := HVq.out.cell 16 _ rfl
        by_cases hlt2 : q < m
        · obtain ⟨b1, o1, kk, nl1, nn, ll, cc, nx, ka, kc, rfl, hkid, hcl⟩ := XL.at_ HXl.out (i := q) hlt2
          obtain ⟨k0, k1, k2, k3, k4, k5⟩ := hcl _ HBq.out
          have HCj := jhid9 (fun w' hb => HCl.out q w' _ hlt2 hb hkid)
          have p2 : (0 : Int) ≤ (q : Int) := by omega
          have p3 : (q : Int) < (m : Int) := by omega
          clear hkid hcl
          go_wp2_with (go_at_call 48; refine (HCj.out _ HBq.out).mono ?_; rintro e w5 ⟨rfl, hb5⟩; have HB5 := jhid9 (jtwo HBq.out hb5); have HV5 := jhid9 (HVq.out.later hb5); clear hb5)
          exact ⟨⟨q + 1, by omega, by go_num, HV5, HB5⟩, by simp [intOf]; omega⟩
        · obtain rfl : q = m := by omega
          go_wp2
          exact ⟨⟨i + 1, by omega, by go_num, HBq.out⟩, by simp [intOf]; omega⟩
    · obtain rfl : i = n := by omega
      clear hb
      go_wp2
      go_ret
      exact ⟨rfl, HB.out⟩
end Go.Proofs.YtdimkfcanegahaaDoor
