/-
  shape.Product of any two codes.
-/
import Derived.Test.YtmgfeepnkahkmaaGreatQggid00
import Derived.Test.YtmgfeepnkahkmaaGreatQggid48
import Derived.Test.YtmgfeepnkahkmaaGreatQggid15
import Derived.Test.YtmgfeepnkahkmaaGreatQggid16
set_option maxRecDepth 100000
set_option maxHeartbeats 16000000
namespace Go.Proofs.YtmgfeepnkahkmaaGreat
open Go.RowKit
theorem ql2 (w : World) (bb R i j p : Nat) (h : w.cell? ⟨bb, 0, none⟩ = some (.int .i64 (R : Int))) (hp : i * R + j = p) (hR : R ≤ 64) (hi : i ≤ 64) (hj : j ≤ 64) :
  Calls Tryz.prog 30 #[.int .i64 (i : Int), .int .i64 (j : Int), .pointer (some ⟨bb, 0, none⟩)] w fun e w' => e = .returned (.int .i64 (p : Int)) ∧ w = w' := by
 obtain ⟨m, HM⟩ : ∃ m : Nat, Hid (i * R = m) := ⟨_, rfl⟩
 have e1 : (i : Int) * (R : Int) = (m : Int) := by rw [← HM.out]; simp
 have l1 : m ≤ 4096 := by rw [← HM.out]; exact Nat.mul_le_mul hi hR
 rw [HM.out] at hp
 have w1 : IntKind.i64.wrap (m : Int) = (m : Int) := by rw [IntKind.wrap_i64]; omega
 have e2 : (m : Int) + (j : Int) = (p : Int) := by omega
 have w2 : IntKind.i64.wrap (p : Int) = (p : Int) := by rw [IntKind.wrap_i64]; omega
 clear hp
 go_enter Tryz.func30, Tryz.ntmps30
 go_wp2
 go_ret
 exact ⟨rfl, rfl⟩
theorem prodat2 (w : World) (bb v8 vj R i j p : Nat) (h1 : w.cell? ⟨bb, 0, none⟩ = some (.int .i64 (R : Int))) (h2 : w.cell? ⟨v8, 0, none⟩ = some (.func (.func 30) #[] #[.pointer (some ⟨bb, 0, none⟩)])) (h3 : w.cell? ⟨vj, 0, none⟩ = some (.int .i64 (j : Int))) (hp : i * R + j = p) (hR : R ≤ 64) (hi : i ≤ 64) (hj : j ≤ 64) :
  Calls Tryz.prog 32 #[.int .i64 (i : Int), .pointer (some ⟨v8, 0, none⟩), .pointer (some ⟨vj, 0, none⟩)] w fun e w' => e = .returned (.int .i64 (p : Int)) ∧ w = w' := by
 have H1 := ql2 w bb R i j p h1 hp hR hi hj
 have HP : Hid (Calls Tryz.prog 30 #[.int .i64 (i : Int), .int .i64 (j : Int), .pointer (some ⟨bb, 0, none⟩)] w fun e w' => e = .returned (.int .i64 (p : Int)) ∧ w = w') := H1
 clear H1 hp
 go_enter Tryz.func32, Tryz.ntmps32
 go_wp2_with (go_at_call 30; refine HP.out.mono ?_; rintro e w' ⟨rfl, rfl⟩)
 go_ret
 exact ⟨rfl, rfl⟩
theorem prodat3 (w : World) (bb v8 vj R i j p : Nat) (h1 : w.cell? ⟨bb, 0, none⟩ = some (.int .i64 (R : Int))) (h2 : w.cell? ⟨v8, 0, none⟩ = some (.func (.func 30) #[] #[.pointer (some ⟨bb, 0, none⟩)])) (h3 : w.cell? ⟨vj, 0, none⟩ = some (.int .i64 (i : Int))) (hp : i * R + j = p) (hR : R ≤ 64) (hi : i ≤ 64) (hj : j ≤ 64) :
  Calls Tryz.prog 33 #[.int .i64 (j : Int), .pointer (some ⟨v8, 0, none⟩), .pointer (some ⟨vj, 0, none⟩)] w fun e w' => e = .returned (.int .i64 (p : Int)) ∧ w = w' := by
 have H1 := ql2 w bb R i j p h1 hp hR hi hj
 have HP : Hid (Calls Tryz.prog 30 #[.int .i64 (i : Int), .int .i64 (j : Int), .pointer (some ⟨bb, 0, none⟩)] w fun e w' => e = .returned (.int .i64 (p : Int)) ∧ w = w') := H1
 clear H1 hp
 go_enter Tryz.func33, Tryz.ntmps33
 go_wp2_with (go_at_call 30; refine HP.out.mono ?_; rintro e w' ⟨rfl, rfl⟩)
 go_ret
 exact ⟨rfl, rfl⟩
theorem ql3 (s : Nat) (w : World) (hs : s < 18446744073709551616) (b0 b1 n : Nat) (q : Nat → Nat) (HN : Hid (cn s 64 = n)) (hq : ∀ t, t < n → q t < 64)
  (hcl : ∀ t, t < n → ∀ w', Below w.heap.size w w' → Calls Tryz.prog 32 #[.int .i64 ((lf s 64 t) : Int), .pointer (some ⟨b0, 0, none⟩), .pointer (some ⟨b1, 0, none⟩)] w' fun e w'' => e = .returned (.int .i64 (q t : Int)) ∧ w' = w'') :
  Calls Tryz.prog 31 #[.int .u64 (s : Int), .func (.func 32) #[] #[.pointer (some ⟨b0, 0, none⟩), .pointer (some ⟨b1, 0, none⟩)]] w fun e w' => e = .returned (.int .u64 (ofs q n : Int)) ∧ Below w.heap.size w w' := by
 obtain ⟨L, HL⟩ : ∃ L : Nat → Nat, Hid (lf s 64 = L) := ⟨_, rfl⟩
 have HLt : Hid (∀ t, t < n → L t < 64) := fun t ht => by rw [← HL.out]; exact (qan (by rw [HN.out]; exact ht)).1
 have hn64 : n ≤ 64 := by rw [← HN.out]; exact qaz 64 s
 have HCl : Hid (∀ t, t < n → ∀ w', Below w.heap.size w w' → Calls Tryz.prog 32 #[.int .i64 (L t : Int), .pointer (some ⟨b0, 0, none⟩), .pointer (some ⟨b1, 0, none⟩)] w' fun e w'' => e = .returned (.int .i64 (q t : Int)) ∧ w' = w'') := fun t ht w' hb => by rw [← HL.out]; exact hcl t ht w' hb
 have HQ : Hid (∀ t, t < n → q t < 64) := hq
 have HLi : Hid (∀ w, Calls Tryz.prog 65 #[.int .u64 (s : Int)] w fun e w' => ∃ v, e = .returned v ∧ Jo w' w.heap.size 3 .i64 v n L ∧ Below w.heap.size w w') := fun w => by rw [← HN.out, ← HL.out]; exact qcx s w hs
 obtain ⟨u, HU⟩ : ∃ u, Hid (ofs q n = u) := ⟨_, rfl⟩
 rw [HU.out]
 clear hcl hq HN HL
 go_enter Tryz.func31, Tryz.ntmps31
 go_wp2_with (first
  | (go_at_call 65; refine (HLi.out _).mono ?_; rintro e w1 ⟨v, rfl, ho1, hb1⟩; obtain ⟨sl, d, rfl, hnil⟩ := ho1.form; have HO1 : Hid (Jo w1 w.heap.size 3 .i64 (.slice sl n d) n L) := ho1; have HB1 : Hid (Below w.heap.size w w1) := hb1; clear ho1 hb1 hnil))
 clear HLi
 go_loopw [6, 7, 14] (fun _ _ j wr => ∃ i : Nat, i ≤ n ∧ j = .int .i64 (i : Int) ∧ Jo wr w.heap.size 3 .i64 (.slice sl n d) n (fun t => if t < i then q t else L t) ∧ Below w.heap.size w wr) (fun _ _ j _ => n - (intOf j).toNat)
 case atStart => exact ⟨0, by omega, rfl, HO1.out.congr (fun t _ => by rw [if_neg (by omega)]), HB1.out⟩
 case round =>
  clear HO1 HB1
  obtain ⟨i, hi, rfl, hrow, hbw⟩ := hrel
  have HO : Hid (Jo wr w.heap.size 3 .i64 (.slice sl n d) n (fun t => if t < i then q t else L t)) := hrow
  have HB : Hid (Below w.heap.size w wr) := hbw
  clear hrow hbw
  by_cases hlt : i < n
  ·obtain ⟨g, rfl, hgB, hgw⟩ := HO.out.addr (by omega)
   have hcell := HO.out.cell i hlt
   have hfree := HO.out.free i
   rw [if_neg (Nat.lt_irrefl i)] at hcell
   obtain ⟨y, HY⟩ : ∃ y, Hid (L i = y) := ⟨_, rfl⟩
   rw [HY.out] at hcell
   obtain ⟨z, HZ⟩ : ∃ z, Hid (q i = z) := ⟨_, rfl⟩
   have HC : Hid (Calls Tryz.prog 32 #[.int .i64 (y : Int), .pointer (some ⟨b0, 0, none⟩), .pointer (some ⟨b1, 0, none⟩)] wr fun e w'' => e = .returned (.int .i64 (z : Int)) ∧ wr = w'') := by have := HCl.out i hlt wr HB.out; rw [HY.out, HZ.out] at this; exact this
   have HS : Hid (Jo (wr.setCell ⟨g, i, none⟩ (.int .i64 (z : Int))) w.heap.size 3 .i64 (.slice (some ⟨g, 0, none⟩) n d) n (fun t => if t < i + 1 then q t else L t)) := by
    refine (HO.out.set16 i z).congr (fun t _ => ?_)
    by_cases e1 : t = i
    ·subst e1; rw [if_pos rfl, if_pos (by omega), HZ.out]
    ·rw [if_neg e1]
     by_cases e2 : t < i
     ·rw [if_pos e2, if_pos (by omega)]
     ·rw [if_neg e2, if_neg (by omega)]
   have HBs : Hid (Below w.heap.size w (wr.setCell ⟨g, i, none⟩ (.int .i64 (z : Int)))) := HB.out.setCell hgB _
   have i0 : (0 : Int) ≤ (i : Int) := Int.natCast_nonneg _
   have i1 : (i : Int) < (n : Int) := by omega
   go_wp2_with (go_at_call 32; refine HC.out.mono ?_; rintro e w' ⟨rfl, rfl⟩)
   exact ⟨⟨i + 1, by omega, by go_num, HS.out, HBs.out⟩, by simp [intOf]; omega⟩
  ·obtain rfl : i = n := by omega
   have HJ : Hid (Jl wr sl .i64 i (fun t => (q t : Int))) := (HO.out.congr (f' := q) (fun t ht => if_pos ht)).jl
   have HOf : Hid (∀ cap, Calls Tryz.prog 66 #[.slice sl i cap] wr fun e w' => e = .returned (.tuple #[.int .u64 (u : Int), .int .i64 0]) ∧ wr = w') := fun cap => by
    have := qgf wr i cap sl (fun t => (q t : Int)) (by omega) HJ.out
    rw [qf5 (fun t ht => by have := HQ.out t ht; omega)] at this
    rw [← HU.out]
    exact this
   go_wp2_with (go_at_call 66; refine (HOf.out _).mono ?_; rintro e w' ⟨rfl, rfl⟩)
   go_ret
   exact ⟨rfl, HB.out⟩
theorem ql4 (s : Nat) (w : World) (hs : s < 18446744073709551616) (b0 b1 n : Nat) (q : Nat → Nat) (HN : Hid (cn s 64 = n)) (hq : ∀ t, t < n → q t < 64)
  (hcl : ∀ t, t < n → ∀ w', Below w.heap.size w w' → Calls Tryz.prog 33 #[.int .i64 ((lf s 64 t) : Int), .pointer (some ⟨b0, 0, none⟩), .pointer (some ⟨b1, 0, none⟩)] w' fun e w'' => e = .returned (.int .i64 (q t : Int)) ∧ w' = w'') :
  Calls Tryz.prog 31 #[.int .u64 (s : Int), .func (.func 33) #[] #[.pointer (some ⟨b0, 0, none⟩), .pointer (some ⟨b1, 0, none⟩)]] w fun e w' => e = .returned (.int .u64 (ofs q n : Int)) ∧ Below w.heap.size w w' := by
 obtain ⟨L, HL⟩ : ∃ L : Nat → Nat, Hid (lf s 64 = L) := ⟨_, rfl⟩
 have HLt : Hid (∀ t, t < n → L t < 64) := fun t ht => by rw [← HL.out]; exact (qan (by rw [HN.out]; exact ht)).1
 have hn64 : n ≤ 64 := by rw [← HN.out]; exact qaz 64 s
 have HCl : Hid (∀ t, t < n → ∀ w', Below w.heap.size w w' → Calls Tryz.prog 33 #[.int .i64 (L t : Int), .pointer (some ⟨b0, 0, none⟩), .pointer (some ⟨b1, 0, none⟩)] w' fun e w'' => e = .returned (.int .i64 (q t : Int)) ∧ w' = w'') := fun t ht w' hb => by rw [← HL.out]; exact hcl t ht w' hb
 have HQ : Hid (∀ t, t < n → q t < 64) := hq
 have HLi : Hid (∀ w, Calls Tryz.prog 65 #[.int .u64 (s : Int)] w fun e w' => ∃ v, e = .returned v ∧ Jo w' w.heap.size 3 .i64 v n L ∧ Below w.heap.size w w') := fun w => by rw [← HN.out, ← HL.out]; exact qcx s w hs
 obtain ⟨u, HU⟩ : ∃ u, Hid (ofs q n = u) := ⟨_, rfl⟩
 rw [HU.out]
 clear hcl hq HN HL
 go_enter Tryz.func31, Tryz.ntmps31
 go_wp2_with (first
  | (go_at_call 65; refine (HLi.out _).mono ?_; rintro e w1 ⟨v, rfl, ho1, hb1⟩; obtain ⟨sl, d, rfl, hnil⟩ := ho1.form; have HO1 : Hid (Jo w1 w.heap.size 3 .i64 (.slice sl n d) n L) := ho1; have HB1 : Hid (Below w.heap.size w w1) := hb1; clear ho1 hb1 hnil))
 clear HLi
 go_loopw [6, 7, 14] (fun _ _ j wr => ∃ i : Nat, i ≤ n ∧ j = .int .i64 (i : Int) ∧ Jo wr w.heap.size 3 .i64 (.slice sl n d) n (fun t => if t < i then q t else L t) ∧ Below w.heap.size w wr) (fun _ _ j _ => n - (intOf j).toNat)
 case atStart => exact ⟨0, by omega, rfl, HO1.out.congr (fun t _ => by rw [if_neg (by omega)]), HB1.out⟩
 case round =>
  clear HO1 HB1
  obtain ⟨i, hi, rfl, hrow, hbw⟩ := hrel
  have HO : Hid (Jo wr w.heap.size 3 .i64 (.slice sl n d) n (fun t => if t < i then q t else L t)) := hrow
  have HB : Hid (Below w.heap.size w wr) := hbw
  clear hrow hbw
  by_cases hlt : i < n
  ·obtain ⟨g, rfl, hgB, hgw⟩ := HO.out.addr (by omega)
   have hcell := HO.out.cell i hlt
   have hfree := HO.out.free i
   rw [if_neg (Nat.lt_irrefl i)] at hcell
   obtain ⟨y, HY⟩ : ∃ y, Hid (L i = y) := ⟨_, rfl⟩
   rw [HY.out] at hcell
   obtain ⟨z, HZ⟩ : ∃ z, Hid (q i = z) := ⟨_, rfl⟩
   have HC : Hid (Calls Tryz.prog 33 #[.int .i64 (y : Int), .pointer (some ⟨b0, 0, none⟩), .pointer (some ⟨b1, 0, none⟩)] wr fun e w'' => e = .returned (.int .i64 (z : Int)) ∧ wr = w'') := by have := HCl.out i hlt wr HB.out; rw [HY.out, HZ.out] at this; exact this
   have HS : Hid (Jo (wr.setCell ⟨g, i, none⟩ (.int .i64 (z : Int))) w.heap.size 3 .i64 (.slice (some ⟨g, 0, none⟩) n d) n (fun t => if t < i + 1 then q t else L t)) := by
    refine (HO.out.set16 i z).congr (fun t _ => ?_)
    by_cases e1 : t = i
    ·subst e1; rw [if_pos rfl, if_pos (by omega), HZ.out]
    ·rw [if_neg e1]
     by_cases e2 : t < i
     ·rw [if_pos e2, if_pos (by omega)]
     ·rw [if_neg e2, if_neg (by omega)]
   have HBs : Hid (Below w.heap.size w (wr.setCell ⟨g, i, none⟩ (.int .i64 (z : Int)))) := HB.out.setCell hgB _
   have i0 : (0 : Int) ≤ (i : Int) := Int.natCast_nonneg _
   have i1 : (i : Int) < (n : Int) := by omega
   go_wp2_with (go_at_call 33; refine HC.out.mono ?_; rintro e w' ⟨rfl, rfl⟩)
   exact ⟨⟨i + 1, by omega, by go_num, HS.out, HBs.out⟩, by simp [intOf]; omega⟩
  ·obtain rfl : i = n := by omega
   have HJ : Hid (Jl wr sl .i64 i (fun t => (q t : Int))) := (HO.out.congr (f' := q) (fun t ht => if_pos ht)).jl
   have HOf : Hid (∀ cap, Calls Tryz.prog 66 #[.slice sl i cap] wr fun e w' => e = .returned (.tuple #[.int .u64 (u : Int), .int .i64 0]) ∧ wr = w') := fun cap => by
    have := qgf wr i cap sl (fun t => (q t : Int)) (by omega) HJ.out
    rw [qf5 (fun t ht => by have := HQ.out t ht; omega)] at this
    rw [← HU.out]
    exact this
   go_wp2_with (go_at_call 66; refine (HOf.out _).mono ?_; rintro e w' ⟨rfl, rfl⟩)
   go_ret
   exact ⟨rfl, HB.out⟩
/-- A group of the first code, at the block j of the second. -/
def pgA (s R j : Nat) : Nat := ofs (fun t => lf s 64 t * R + j) (cn s 64)
/-- A group of the second code, at the block i of the first. -/
def pgB (s R i : Nat) : Nat := ofs (fun t => i * R + lf s 64 t) (cn s 64)
/-- The groups of a product. -/
def pgf (q q' : Nat → Nat) (ma rb mb t : Nat) : Nat := if t < ma * rb then pgA (q (t / rb)) rb (t % rb) else pgB (q' ((t - ma * rb) % mb)) rb ((t - ma * rb) / mb)
/-- What Product answers. -/
def PrA (w : World) (F F' : Nat → Nat) (ca rb cb ma mb RR CC M : Nat) (q q' : Nat → Nat) (e : Ending) (w' : World) : Prop := ∃ g N s2 d2, e = .returned (.tuple #[cv (RR : Int) (CC : Int) (some ⟨g, 0, none⟩) N N s2 M d2, .int .i64 0]) ∧ RR * CC = N ∧ RowAt w' g 5 N (krf F F' ca rb cb CC) ∧ w.heap.size ≤ g ∧ Jo w' w.heap.size 52 .u64 (.slice s2 M d2) M (pgf q q' ma rb mb) ∧ Below w.heap.size w w'
theorem pgf_a {q q' : Nat → Nat} {ma rb mb i j : Nat} (hi : i < ma) (hj : j < rb) : pgf q q' ma rb mb (i * rb + j) = pgA (q i) rb j := by
 have h1 : i * rb + j < ma * rb := by
  have : (i + 1) * rb ≤ ma * rb := Nat.mul_le_mul_right rb hi
  rw [Nat.add_mul] at this
  omega
 unfold pgf
 rw [if_pos h1, Nat.mul_comm i rb, Nat.mul_add_div (by omega), Nat.div_eq_of_lt hj, Nat.add_zero, Nat.mul_add_mod, Nat.mod_eq_of_lt hj]
theorem pgf_b {q q' : Nat → Nat} {ma rb mb i u : Nat} (hu : u < mb) : pgf q q' ma rb mb (ma * rb + i * mb + u) = pgB (q' u) rb i := by
 unfold pgf
 rw [if_neg (by omega), show ma * rb + i * mb + u - ma * rb = mb * i + u by rw [Nat.mul_comm i mb]; omega, Nat.mul_add_div (by omega), Nat.div_eq_of_lt hu, Nat.add_zero, Nat.mul_add_mod, Nat.mod_eq_of_lt hu]
theorem pra_mk {w w' : World} {F F' q q' kf G : Nat → Nat} {ca rb cb ma mb RR CC M N gd cp : Nat} {s : Option Addr} (hN : RR * CC = N) (h1 : krf F F' ca rb cb CC = kf) (hG : pgf q q' ma rb mb = G) (hr : RowAt w' gd 5 N kf) (hg : w.heap.size ≤ gd) (hj : Jo w' w.heap.size 52 .u64 (.slice s M cp) M G) (hb : Below w.heap.size w w') :
  PrA w F F' ca rb cb ma mb RR CC M q q' (.returned (.tuple #[.agg #[.int .i64 (RR : Int), .int .i64 (CC : Int), .slice (some ⟨gd, 0, none⟩) N N, .slice s M cp], .int .i64 0])) w' := by
 subst h1 hG
 exact ⟨gd, N, s, cp, rfl, hN, hr, hg, hj, hb⟩
theorem qgl {w w' : World} {b B n : Nat} {xs : Array Value} {v : Value} {ys : List Value} (h : Vq w b 3 xs) (ho : w.ownsRow B 52 1 v n ys) (hg : w.grownBy w' v.ownBlock) : Vq w' b 3 xs := by
 have e : w'.heap[b]? = w.heap[b]? := by
  refine hg.block b h.lt (fun e => ?_)
  rcases ho.2 with ⟨rfl, _⟩ | ⟨g, cap, cur, rfl, _, hb, _⟩
  ·simp [Value.ownBlock] at e
  ·simp [Value.ownBlock] at e
   subst e
   unfold Vq at h
   rw [h] at hb
   simp at hb
 unfold Vq
 rw [e]
 exact h
theorem qg2 {i ra rb j P : Nat} (hP : ra * rb = P) (hi : i < ra) (hj : j < rb) : i * rb + j < P := by
 have : (i + 1) * rb ≤ ra * rb := Nat.mul_le_mul_right rb hi
 rw [Nat.add_mul] at this
 omega
theorem ql5 (w : World) (ra ca na ka ma da rb cb nb kb mb db RR CC M : Nat) (a b a' b' : Option Addr) (F F' q q' : Nat → Nat) (ha : Mt w a na ka F) (ha' : Mt w a' nb kb F') (hb : Jl w b .u64 ma (fun i => (q i : Int))) (hb' : Jl w b' .u64 mb (fun i => (q' i : Int))) (RA : Rt ra ca na) (RB : Rt rb cb nb) (hc : 1 ≤ ca) (hr : ca ≤ ra) (hc' : 1 ≤ cb) (hr' : cb ≤ rb) (hg : ∀ i, i < ma → HangP F ra ca (q i)) (hg' : ∀ i, i < mb → HangP F' rb cb (q' i)) (hR : ra * rb = RR) (hC : ca * cb = CC) (hM : ma * rb + ra * mb = M) (hrr : RR ≤ 64) (hmm : M ≤ 16384) :
  Calls Tryz.prog 9 #[cv ra ca a na ka b ma da, cv rb cb a' nb kb b' mb db] w fun e w' => PrA w F F' ca rb cb ma mb RR CC M q q' e w' := by
 obtain ⟨wb, HW⟩ : ∃ wb, Hid (((w.alloc (.cells #[.int .i64 (ra : Int), .int .i64 (ca : Int), .slice a na ka, .slice b ma da] 27)).alloc (.cells #[.int .i64 (rb : Int), .int .i64 (cb : Int), .slice a' nb kb, .slice b' mb db] 27)).alloc (.cells #[.int .i64 0, .int .i64 0, .slice none 0 0, .slice none 0 0] 27) = wb) := ⟨_, rfl⟩
 have HB0 : Hid (Below w.heap.size w wb) := by rw [← HW.out]; exact qa0 (qa0 (qa1 _ _) (qa1 _ _)) (qa1 _ _)
 have HA : Hid (Vq wb w.heap.size 27 #[.int .i64 (ra : Int), .int .i64 (ca : Int), .slice a na ka, .slice b ma da]) := by rw [← HW.out]; exact ((Vq.new w _ _).later (qa1 _ _)).later (qa1 _ _)
 have HBv : Hid (Vq wb (w.heap.size + 1) 27 #[.int .i64 (rb : Int), .int .i64 (cb : Int), .slice a' nb kb, .slice b' mb db]) := by rw [← HW.out]; exact (Vq.new1 _ _ _ _).later (qa1 _ _)
 have HZ : Hid (Vq wb (w.heap.size + 1 + 1) 27 #[.int .i64 0, .int .i64 0, .slice none 0 0, .slice none 0 0]) := by rw [← HW.out]; exact Vq.new2 _ _ _ _ _
 have hsz : wb.heap.size = w.heap.size + 1 + 1 + 1 := by rw [← HW.out]; simp
 have HR0 : Hid (Below wb.heap.size wb wb) := Below.refl _ _
 have hra := RA.r64
 have hrb := RB.r64
 have hma : ma ≤ 16384 := by have := Nat.mul_le_mul_left ma (show 1 ≤ rb by omega); omega
 have hmb : mb ≤ 16384 := by have := Nat.mul_le_mul_right mb (show 1 ≤ ra by omega); omega
 have GA : GenP ra ca na := ⟨RA.p, by omega, by omega⟩
 have GB : GenP rb cb nb := ⟨RB.p, by omega, by omega⟩
 have HMa : Hid (∀ w', Below wb.heap.size wb w' → Calls Tryz.prog 16 #[cv ra ca a na ka b ma da] w' fun e w'' => e = .returned (.bool true) ∧ Below w'.heap.size w' w'') := fun w' h => qdd w' ra ca na ka da ma a b F q ((ha.later HB0.out).later h) ((hb.later HB0.out).later h) (by omega) (fun i hi => qbb (hg i hi) hra) true ⟨fun _ => ⟨GA, by simpa using hg⟩, fun _ => rfl⟩
 have HMb : Hid (∀ w', Below wb.heap.size wb w' → Calls Tryz.prog 16 #[cv rb cb a' nb kb b' mb db] w' fun e w'' => e = .returned (.bool true) ∧ Below w'.heap.size w' w'') := fun w' h => qdd w' rb cb nb kb db mb a' b' F' q' ((ha'.later HB0.out).later h) ((hb'.later HB0.out).later h) (by omega) (fun i hi => qbb (hg' i hi) hrb) true ⟨fun _ => ⟨GB, by simpa using hg'⟩, fun _ => rfl⟩
 have HTg : Hid (∀ w', Calls Tryz.prog 28 #[cv ra ca a na ka b ma da, .int .i64 (rb : Int), cv rb cb a' nb kb b' mb db, .int .i64 (ra : Int)] w' fun e w'' => e = .returned (.bool false) ∧ Below w'.heap.size w' w'') := fun w' => tmg16 w' ra ca rb cb a b a' b' na ka ma da nb kb mb db rb ra (by omega) (by omega) (by omega) (by omega) (by omega) (by omega) false ⟨fun h => (by cases h), fun h => (by rw [Nat.mul_comm mb ra] at h; omega)⟩
 obtain ⟨N, HN⟩ : ∃ N : Nat, Hid (RR * CC = N) := ⟨_, rfl⟩
 have hCC : CC ≤ 64 := by rw [← hC]; exact Nat.le_trans (Nat.mul_le_mul hr hr') (by rw [hR]; exact hrr)
 have HRt : Hid (Rt RR CC N) := ⟨hrr, hCC, HN.out⟩
 obtain ⟨kf, HKf⟩ : ∃ kf, Hid (krf F F' ca rb cb CC = kf) := ⟨_, rfl⟩
 have HKr : Hid (∀ w', Below wb.heap.size wb w' → Calls Tryz.prog 29 #[mv ra ca a na ka, mv rb cb a' nb kb] w' fun e w'' => ∃ g, e = .returned (.tuple #[mv RR CC (some ⟨g, 0, none⟩) N N, .int .i64 0]) ∧ RowAt w'' g 5 N kf ∧ w'.heap.size ≤ g ∧ Below w'.heap.size w' w'') := fun w' h => by
  rw [← HKf.out]
  exact mkron_ok w' ra ca rb cb na nb RR CC N ka kb a a' F F' ((ha.later HB0.out).later h) ((ha'.later HB0.out).later h) RA RB hR hC HRt.out
 have eRR : (ra : Int) * (rb : Int) = (RR : Int) := by rw [← hR]; simp
 have hRR2 : ¬ (64 : Int) < (RR : Int) := by omega
 have HJA : Hid (Jl w b .u64 ma (fun i => (q i : Int))) := hb
 have HJB : Hid (Jl w b' .u64 mb (fun i => (q' i : Int))) := hb'
 have HG : Hid (∀ i, i < ma → HangP F ra ca (q i)) := hg
 have HG' : Hid (∀ i, i < mb → HangP F' rb cb (q' i)) := hg'
 have HRm : Hid (ra * rb = RR) := hR
 have HMm : Hid (ma * rb + ra * mb = M) := hM
 have M1 : Hid True := trivial
 clear ha ha' hb hb' RA RB hg hg' GA GB hR hC hM
 go_enter Tryz.func9, Tryz.ntmps9
 go_upto_region 6 with (first
  | (go_at_call 16; clear M1; rw [HW.out]; refine (HMa.out _ HR0.out).mono ?_; rintro e w1 ⟨rfl, hb1⟩; have HB1 : Hid (Below wb.heap.size wb w1) := hb1; have a_10 := (HA.out.later HB1.out).cell 0 _ rfl; have a_11 := (HA.out.later HB1.out).cell 1 _ rfl; have a_12 := (HA.out.later HB1.out).cell 2 _ rfl; have a_13 := (HA.out.later HB1.out).cell 3 _ rfl; have b_10 := (HBv.out.later HB1.out).cell 0 _ rfl; have b_11 := (HBv.out.later HB1.out).cell 1 _ rfl; have b_12 := (HBv.out.later HB1.out).cell 2 _ rfl; have b_13 := (HBv.out.later HB1.out).cell 3 _ rfl; have z_10 := (HZ.out.later HB1.out).cell 0 _ rfl; have z_11 := (HZ.out.later HB1.out).cell 1 _ rfl; have z_12 := (HZ.out.later HB1.out).cell 2 _ rfl; have z_13 := (HZ.out.later HB1.out).cell 3 _ rfl; have f_10 := (HZ.out.later HB1.out).free 0; have f_11 := (HZ.out.later HB1.out).free 1; have f_12 := (HZ.out.later HB1.out).free 2; have f_13 := (HZ.out.later HB1.out).free 3;  clear hb1)
  | (go_at_call 16; refine (HMb.out _ HB1.out).mono ?_; rintro e w2 ⟨rfl, hb2⟩; have HB2 : Hid (Below wb.heap.size wb w2) := qa0 HB1.out hb2; clear a_10 a_11 a_12 a_13 b_10 b_11 b_12 b_13 z_10 z_11 z_12 z_13 f_10 f_11 f_12 f_13; have a_20 := (HA.out.later HB2.out).cell 0 _ rfl; have a_21 := (HA.out.later HB2.out).cell 1 _ rfl; have a_22 := (HA.out.later HB2.out).cell 2 _ rfl; have a_23 := (HA.out.later HB2.out).cell 3 _ rfl; have b_20 := (HBv.out.later HB2.out).cell 0 _ rfl; have b_21 := (HBv.out.later HB2.out).cell 1 _ rfl; have b_22 := (HBv.out.later HB2.out).cell 2 _ rfl; have b_23 := (HBv.out.later HB2.out).cell 3 _ rfl; have z_20 := (HZ.out.later HB2.out).cell 0 _ rfl; have z_21 := (HZ.out.later HB2.out).cell 1 _ rfl; have z_22 := (HZ.out.later HB2.out).cell 2 _ rfl; have z_23 := (HZ.out.later HB2.out).cell 3 _ rfl; have f_20 := (HZ.out.later HB2.out).free 0; have f_21 := (HZ.out.later HB2.out).free 1; have f_22 := (HZ.out.later HB2.out).free 2; have f_23 := (HZ.out.later HB2.out).free 3;  clear hb2)
  | (go_at_call 28; refine (HTg.out _).mono ?_; rintro e w4 ⟨rfl, hb4⟩; have HB4 : Hid (Below wb.heap.size wb w4) := qa0 HB2.out hb4; clear a_20 a_21 a_22 a_23 b_20 b_21 b_22 b_23 z_20 z_21 z_22 z_23 f_20 f_21 f_22 f_23; have a_40 := (HA.out.later HB4.out).cell 0 _ rfl; have a_41 := (HA.out.later HB4.out).cell 1 _ rfl; have a_42 := (HA.out.later HB4.out).cell 2 _ rfl; have a_43 := (HA.out.later HB4.out).cell 3 _ rfl; have b_40 := (HBv.out.later HB4.out).cell 0 _ rfl; have b_41 := (HBv.out.later HB4.out).cell 1 _ rfl; have b_42 := (HBv.out.later HB4.out).cell 2 _ rfl; have b_43 := (HBv.out.later HB4.out).cell 3 _ rfl; have z_40 := (HZ.out.later HB4.out).cell 0 _ rfl; have z_41 := (HZ.out.later HB4.out).cell 1 _ rfl; have z_42 := (HZ.out.later HB4.out).cell 2 _ rfl; have z_43 := (HZ.out.later HB4.out).cell 3 _ rfl; have f_40 := (HZ.out.later HB4.out).free 0; have f_41 := (HZ.out.later HB4.out).free 1; have f_42 := (HZ.out.later HB4.out).free 2; have f_43 := (HZ.out.later HB4.out).free 3;  clear hb4)
  | (go_at_call 29; refine (HKr.out _ HB4.out).mono ?_; rintro e w5 ⟨gd, rfl, hrow, hgd, hb5⟩; have HB5 : Hid (Below wb.heap.size wb w5) := qa0 HB4.out hb5; have HR5 : Hid (RowAt w5 gd 5 N kf) := hrow; have HGd : Hid (wb.heap.size ≤ gd) := Nat.le_trans HB4.out.size hgd; clear a_40 a_41 a_42 a_43 b_40 b_41 b_42 b_43 z_40 z_41 z_42 z_43 f_40 f_41 f_42 f_43; clear hb5 hrow hgd))
 obtain ⟨v6, HV6b⟩ : ∃ v6, Hid (w5.heap.size = v6) := ⟨_, rfl⟩
 obtain ⟨w6, HW6⟩ : ∃ w6, Hid (w5.alloc (.cells #[.int .i64 (RR : Int), .int .i64 (CC : Int), .slice (some ⟨gd, 0, none⟩) N N] 24) = w6) := ⟨_, rfl⟩
 have HV6 : Hid (Vq w6 v6 24 #[.int .i64 (RR : Int), .int .i64 (CC : Int), .slice (some ⟨gd, 0, none⟩) N N]) := by rw [← HW6.out, ← HV6b.out]; exact Vq.new w5 _ _
 have HB6 : Hid (Below wb.heap.size wb w6) := by rw [← HW6.out]; exact qa0 HB5.out (qa1 _ _)
 have HR6 : Hid (RowAt w6 gd 5 N kf) := by rw [← HW6.out]; exact HR5.out.later (qa1 _ _)
 obtain ⟨zb, HZb⟩ : ∃ zb, Hid (w.heap.size + 1 + 1 = zb) := ⟨_, rfl⟩
 obtain ⟨bb, HBb⟩ : ∃ bb, Hid (w.heap.size + 1 = bb) := ⟨_, rfl⟩
 have hzb : zb < wb.heap.size := by rw [hsz, ← HZb.out]; omega
 have hzw : w.heap.size ≤ zb := by rw [← HZb.out]; omega
 rw [HW6.out, HV6b.out, HZb.out, HBb.out]
 rw [HZb.out] at HZ
 rw [HBb.out] at HBv
 clear hsz HMa HMb HTg HKr HW6 HR5 HB5 HB4 HB2 HB1
 obtain ⟨v8, HV8b⟩ : ∃ v8, Hid (w6.heap.size = v8) := ⟨_, rfl⟩
 obtain ⟨w7, HW7⟩ : ∃ w7, Hid ((w6.alloc (.cells #[.nilFunc] 56)).setCell ⟨w6.heap.size, 0, none⟩ (.func (.func 30) #[] #[.pointer (some ⟨bb, 0, none⟩)]) = w7) := ⟨_, rfl⟩
 have HB67 : Hid (Below w6.heap.size w6 w7) := by rw [← HW7.out]; exact (qa1 w6 _).setCell (Nat.le_refl _) _
 have HV7 : Hid (Vq w7 v8 56 #[.func (.func 30) #[] #[.pointer (some ⟨bb, 0, none⟩)]]) := by rw [← HW7.out, ← HV8b.out]; exact (Vq.new w6 _ _).set 0 _
 have HB7 : Hid (Below wb.heap.size wb w7) := qa0 HB6.out HB67.out
 have HR7 : Hid (RowAt w7 gd 5 N kf) := HR6.out.later HB67.out
 have HX7 : Hid (Vq w7 v6 24 #[.int .i64 (RR : Int), .int .i64 (CC : Int), .slice (some ⟨gd, 0, none⟩) N N]) := HV6.out.later HB67.out
 have hst : (store ⟨w6.heap.size, 0, none⟩ (.func (.func 30) #[] #[.pointer (some ⟨bb, 0, none⟩)])).run Tryz.prog (w6.alloc (.cells #[.nilFunc] 56)) = .ok () w7 := by
  rw [← HW7.out]
  rw [run_store _ _ _ _ _ rfl, (Vq.new w6 56 #[.nilFunc]).cell 0 _ rfl, (Vq.new w6 56 #[.nilFunc]).free 0]
  rfl
 have hmf := mkf
 go_upto_region 7 with fail
 rw [HV8b.out]
 obtain ⟨G, HGf⟩ : ∃ G, Hid (pgf q q' ma rb mb = G) := ⟨_, rfl⟩
 obtain ⟨u0, hu0, hy0, hy1, hy2⟩ := info_parts ju64
 have HGa : Hid (∀ i j, i < ma → j < rb → G (i * rb + j) = pgA (q i) rb j) := fun i j hi hj => by rw [← HGf.out]; exact pgf_a hi hj
 have HGb : Hid (∀ i u, u < mb → G (ma * rb + i * mb + u) = pgB (q' u) rb i) := fun i u hu => by rw [← HGf.out]; exact pgf_b hu
 have a_70 := (HA.out.later HB7.out).cell 0 _ rfl; have a_71 := (HA.out.later HB7.out).cell 1 _ rfl; have a_72 := (HA.out.later HB7.out).cell 2 _ rfl; have a_73 := (HA.out.later HB7.out).cell 3 _ rfl; have b_70 := (HBv.out.later HB7.out).cell 0 _ rfl; have b_71 := (HBv.out.later HB7.out).cell 1 _ rfl; have b_72 := (HBv.out.later HB7.out).cell 2 _ rfl; have b_73 := (HBv.out.later HB7.out).cell 3 _ rfl; have z_70 := (HZ.out.later HB7.out).cell 0 _ rfl; have z_71 := (HZ.out.later HB7.out).cell 1 _ rfl; have z_72 := (HZ.out.later HB7.out).cell 2 _ rfl; have z_73 := (HZ.out.later HB7.out).cell 3 _ rfl; have f_70 := (HZ.out.later HB7.out).free 0; have f_71 := (HZ.out.later HB7.out).free 1; have f_72 := (HZ.out.later HB7.out).free 2; have f_73 := (HZ.out.later HB7.out).free 3; 
 clear hst HR6 HV6 HW7 HB67 HB6
 go_upto_region 8 with fail
 go_wp2
 clear a_70 a_71 a_72 a_73 b_70 b_71 b_72 b_73 z_70 z_71 z_72 z_73 f_70 f_71 f_72 f_73
 go_loopg [9, 11, 12, 59] ma (fun gh v9 _ _ vi wr => ∃ (i n2 cp : Nat) (s : Option Addr), vi = .int .i64 (i : Int) ∧ v9 = .slice s n2 cp ∧ i ≤ ma ∧ ma - i ≤ gh ∧ i * rb = n2 ∧ Jo wr w7.heap.size 52 .u64 (.slice s n2 cp) n2 G ∧ Below w7.heap.size w7 wr)
 case atStart => exact ⟨0, 0, 0, none, rfl, rfl, by omega, by omega, by simp, Jo.nil _ _ _ _ _, Below.refl _ _⟩
 case round =>
  obtain ⟨i, n1, cp, s, rfl, rfl, hi, hgh, hn1, ho, hbr⟩ := hrel
  have HN1 : Hid (i * rb = n1) := hn1
  have HO : Hid (Jo wr w7.heap.size 52 .u64 (.slice s n1 cp) n1 G) := ho
  have HB : Hid (Below w7.heap.size w7 wr) := hbr
  have HBw : Hid (Below wb.heap.size wb wr) := qa0 HB7.out hbr
  have b0 := (HBv.out.later HBw.out).cell 0 _ rfl
  have a0 := (HA.out.later HBw.out).cell 0 _ rfl
  clear hn1
  by_cases hlt : i < ma
  ·obtain ⟨gz, HGZ⟩ : ∃ gz : Nat, Hid (gz + 1 = gk) := ⟨gk - 1, by show _ = _; omega⟩
   have hlt2 : (i : Int) < (ma : Int) := by omega
   obtain ⟨x, o, ea, hcx⟩ := (HJA.out.later (qa0 HB0.out HBw.out)) i hlt
   have hh := HG.out i hlt
   obtain ⟨u, HU⟩ : ∃ u, Hid (q i = u) := ⟨_, rfl⟩
   have hc2 : wr.cell? ⟨x, o + i, none⟩ = some (.int .u64 (u : Int)) := by rw [← HU.out]; exact hcx
   rw [HU.out] at hh
   have HH : Hid (HangP F ra ca u) := hh
   have i0 : (0 : Int) ≤ (i : Int) := Int.natCast_nonneg _
   subst ea
   clear hcx hh ho hbr
   go_wp2
   go_loopg [9, 12, 66] rb (fun gh v9 _ vj wr2 => ∃ (j n2 cp : Nat) (s : Option Addr), vj = .int .i64 (j : Int) ∧ v9 = .slice s n2 cp ∧ j ≤ rb ∧ rb - j ≤ gh ∧ n1 + j = n2 ∧ Jo wr2 w7.heap.size 52 .u64 (.slice s n2 cp) n2 G ∧ Below w7.heap.size w7 wr2)
   case atStart => exact ⟨0, n1, cp, s, rfl, rfl, by omega, by omega, by omega, HO.out, HB.out⟩
   case round =>
    clear HO HB HBw b0 a0 hc2
    obtain ⟨j, n2, cp2, s2, rfl, rfl, hj, hgh2, hn2, ho, hbr⟩ := hrel
    have HO : Hid (Jo _ w7.heap.size 52 .u64 (.slice s2 n2 cp2) n2 G) := ho
    have HB : Hid (Below w7.heap.size w7 _) := hbr
    have HBw : Hid (Below wb.heap.size wb _) := qa0 HB7.out hbr
    have HN2 : Hid (n1 + j = n2) := hn2
    have hn2l : n2 ≤ 16384 := by
     have h1 : i * rb + j ≤ ma * rb := by have : (i + 1) * rb ≤ ma * rb := Nat.mul_le_mul_right rb hlt; rw [Nat.add_mul] at this; omega
     have := HN1.out
     have := HMm.out
     omega
    clear hn2
    by_cases hltj : j < rb
    ·have hltj2 : (j : Int) < (rb : Int) := by omega
     obtain ⟨wj, HWj⟩ : ∃ wj, Hid (wr.alloc (.cells #[.int .i64 (j : Int)] 3) = wj) := ⟨_, rfl⟩
     have HBj : Hid (Below wr.heap.size wr wj) := by rw [← HWj.out]; exact qa1 _ _
     have HVj : Hid (Vq wj wr.heap.size 3 #[.int .i64 (j : Int)]) := by rw [← HWj.out]; exact Vq.new wr _ _
     obtain ⟨g, HGu⟩ : ∃ g, Hid (pgA u rb j = g) := ⟨_, rfl⟩
     have HMv : Hid (Calls Tryz.prog 31 #[.int .u64 (u : Int), .func (.func 32) #[] #[.pointer (some ⟨v8, 0, none⟩), .pointer (some ⟨wr.heap.size, 0, none⟩)]] wj fun e w' => e = .returned (.int .u64 (g : Int)) ∧ Below wj.heap.size wj w') := by
      rw [← HGu.out]
      refine ql3 u wj (qbb HH.out hra) v8 wr.heap.size (cn u 64) (fun t => lf u 64 t * rb + j) rfl (fun t ht => by have := qg2 HRm.out (qfc HH.out ht) hltj; omega) (fun t ht w' hw => ?_)
      have hl := qfc HH.out ht
      exact prodat2 w' bb v8 wr.heap.size rb (lf u 64 t) j _ (((HBv.out.later HBw.out).later (qa0 HBj.out hw)).cell 0 _ rfl) ((HV7.out.later (qa0 HB.out (qa0 HBj.out hw))).cell 0 _ rfl) ((HVj.out.later hw).cell 0 _ rfl) rfl hrb (by omega) (by omega)
     have HGi : Hid (G n2 = g) := by
      show G n2 = g
      rw [← HN2.out, ← HN1.out, HGa.out i j hlt hltj, HU.out, HGu.out]
     clear HGu ho hbr
     go_wp2_with (first
      | (go_at_call 31; rw [HWj.out]; refine HMv.out.mono ?_; rintro e w11 ⟨rfl, hb11⟩; have HO11 : Hid (Jo w11 w7.heap.size 52 .u64 (.slice s2 n2 cp2) n2 G) := HO.out.later (qa0 HBj.out hb11); have HB11 : Hid (Below w7.heap.size w7 w11) := HB.out.trans ((qa0 HBj.out hb11).mono HB.out.size); clear hb11)
      | (at_builtin; refine wpList_append_own _ rfl _ _ 25 rfl w7.heap.size 52 u0 (.int .u64 0) 1 8 Tryz.underlying25 hu0 hy0 hy1 hy2 rfl (by decide) _ n2 (jrow .u64 n2 G).toList rfl (World.ownsRow.alloc HO11.out _) ⟨w11.heap.size, 0, none⟩ 1 1 [.int .u64 (g : Int)] rfl rfl (qcn _ _ _ _) (qco _ _) (by unfold maxLen; omega) (by omega) (by have := HB11.out.size; simp; omega) ?_; intro v3 w13 hown3 hgrow3 _; have HO3 : Hid (Jo w13 w7.heap.size 52 .u64 v3 (n2 + 1) G) := (by show World.ownsRow _ _ _ _ _ _ _; rw [← qe5, HGi.out]; exact hown3); have HB13 : Hid (Below w7.heap.size w7 w13) := (HB11.out.alloc HB11.out.size _).grown hgrow3 (by have := HB11.out.size; simp; omega) (qab HO11.out); obtain ⟨s3, d3, e3, _⟩ := HO3.out.form; subst e3; clear hown3 hgrow3))
     go_roundg (gk - 1)
     case measure => omega
     case rel => exact ⟨j + 1, n2 + 1, d3, s3, by go_num, rfl, by omega, by omega, by have := HN2.out; omega, HO3.out, HB13.out⟩
    ·have hltj2 : ¬ (j : Int) < (rb : Int) := by omega
     obtain rfl : j = rb := by omega
     have hfin : (i + 1) * j = n2 := by have := HN1.out; have := HN2.out; rw [Nat.add_mul]; omega
     have HFin : Hid ((i + 1) * j = n2) := hfin
     clear hfin ho hbr
     go_wp2
     go_roundg gz
     case measure => have := HGZ.out; omega
     case rel => exact ⟨i + 1, n2, cp2, s2, by go_num, rfl, by omega, by have := HGZ.out; omega, HFin.out, HO.out, HB.out⟩
  ·have hlt2 : ¬ (i : Int) < (ma : Int) := by omega
   obtain rfl : i = ma := by omega
   have b3 := (HBv.out.later HBw.out).cell 3 _ rfl
   clear ho hbr
   go_wp2
   go_loopg [9, 13, 15, 80] ra (fun gh v9 _ _ vi wr => ∃ (k n2 cp : Nat) (s : Option Addr), vi = .int .i64 (k : Int) ∧ v9 = .slice s n2 cp ∧ k ≤ ra ∧ ra - k ≤ gh ∧ n1 + k * mb = n2 ∧ Jo wr w7.heap.size 52 .u64 (.slice s n2 cp) n2 G ∧ Below w7.heap.size w7 wr)
   case atStart => exact ⟨0, n1, cp, s, rfl, rfl, by omega, by omega, by simp, HO.out, HB.out⟩
   case round =>
    clear HO HB HBw b0 a0 b3 hgh hlt2
    obtain ⟨k, n3, cp3, s3x, rfl, rfl, hk, hgh3, hn3, ho, hbr⟩ := hrel
    have HO : Hid (Jo _ w7.heap.size 52 .u64 (.slice s3x n3 cp3) n3 G) := ho
    have HB : Hid (Below w7.heap.size w7 _) := hbr
    have HBw : Hid (Below wb.heap.size wb _) := qa0 HB7.out hbr
    have HN3 : Hid (n1 + k * mb = n3) := hn3
    clear hn3
    by_cases hltk : k < ra
    ·obtain ⟨gz, HGZ⟩ : ∃ gz : Nat, Hid (gz + 1 = gk) := ⟨gk - 1, by show _ = _; omega⟩
     have hltk2 : (k : Int) < (ra : Int) := by omega
     obtain ⟨wj, HWj⟩ : ∃ wj, Hid (wr.alloc (.cells #[.int .i64 (k : Int)] 3) = wj) := ⟨_, rfl⟩
     obtain ⟨bj, HBJ⟩ : ∃ bj, Hid (wr.heap.size = bj) := ⟨_, rfl⟩
     have HBj : Hid (Below wr.heap.size wr wj) := by rw [← HWj.out]; exact qa1 _ _
     have HVj : Hid (Vq wj bj 3 #[.int .i64 (k : Int)]) := by rw [← HWj.out, ← HBJ.out]; exact Vq.new wr _ _
     have HOj : Hid (Jo wj w7.heap.size 52 .u64 (.slice s3x n3 cp3) n3 G) := HO.out.later HBj.out
     have HBjw : Hid (Below w7.heap.size w7 wj) := HB.out.trans (HBj.out.mono HB.out.size)
     have b3 := ((HBv.out.later HBw.out).later HBj.out).cell 3 _ rfl
     clear ho hbr
     go_upto_region 20 with fail
     rw [HWj.out, HBJ.out]
     go_wp2
     clear b3 HO HB HBw HWj HBj
     go_loopg [9, 15, 86] mb (fun gh v9 _ vj wr2 => ∃ (j n2 cp : Nat) (s : Option Addr), vj = .int .i64 (j : Int) ∧ v9 = .slice s n2 cp ∧ j ≤ mb ∧ mb - j ≤ gh ∧ n3 + j = n2 ∧ Jo wr2 w7.heap.size 52 .u64 (.slice s n2 cp) n2 G ∧ Below w7.heap.size w7 wr2 ∧ Vq wr2 bj 3 #[.int .i64 (k : Int)])
     case atStart => exact ⟨0, n3, cp3, s3x, rfl, rfl, by omega, by omega, by omega, HOj.out, HBjw.out, HVj.out⟩
     case round =>
      clear HOj HBjw HVj
      obtain ⟨j, n2, cp2, s2, rfl, rfl, hj, hgh2, hn2, ho, hbr, hvr⟩ := hrel
      have HO : Hid (Jo wr w7.heap.size 52 .u64 (.slice s2 n2 cp2) n2 G) := ho
      have HB : Hid (Below w7.heap.size w7 wr) := hbr
      have HBw : Hid (Below wb.heap.size wb wr) := qa0 HB7.out hbr
      have HVr : Hid (Vq wr bj 3 #[.int .i64 (k : Int)]) := hvr
      have HN2 : Hid (n3 + j = n2) := hn2
      have hn2l : n2 ≤ 16384 := by
       have h1 : k * mb + j ≤ ra * mb := by have : (k + 1) * mb ≤ ra * mb := Nat.mul_le_mul_right mb hltk; rw [Nat.add_mul] at this; omega
       have := HN1.out
       have := HN3.out
       have := HMm.out
       omega
      clear hn2
      by_cases hltj : j < mb
      ·have hltj2 : (j : Int) < (mb : Int) := by omega
       obtain ⟨x, o, ea, hcx⟩ := (HJB.out.later (qa0 HB0.out HBw.out)) j hltj
       have hh := HG'.out j hltj
       obtain ⟨u, HU⟩ : ∃ u, Hid (q' j = u) := ⟨_, rfl⟩
       have hc2 : wr.cell? ⟨x, o + j, none⟩ = some (.int .u64 (u : Int)) := by rw [← HU.out]; exact hcx
       rw [HU.out] at hh
       obtain ⟨g, HGu⟩ : ∃ g, Hid (pgB u rb k = g) := ⟨_, rfl⟩
       have HMv : Hid (Calls Tryz.prog 31 #[.int .u64 (u : Int), .func (.func 33) #[] #[.pointer (some ⟨v8, 0, none⟩), .pointer (some ⟨bj, 0, none⟩)]] wr fun e w' => e = .returned (.int .u64 (g : Int)) ∧ Below wr.heap.size wr w') := by
        rw [← HGu.out]
        refine ql4 u wr (qbb hh hrb) v8 bj (cn u 64) (fun t => k * rb + lf u 64 t) rfl (fun t ht => by have := qg2 HRm.out hltk (qfc hh ht); omega) (fun t ht w' hw => ?_)
        have hl := qfc hh ht
        exact prodat3 w' bb v8 bj rb k (lf u 64 t) _ (((HBv.out.later HBw.out).later hw).cell 0 _ rfl) ((HV7.out.later (qa0 HB.out hw)).cell 0 _ rfl) ((HVr.out.later hw).cell 0 _ rfl) rfl hrb (by omega) (by omega)
       have HGi : Hid (G n2 = g) := by
        show G n2 = g
        rw [← HN2.out, ← HN3.out, ← HN1.out, HGb.out k j hltj, HU.out, HGu.out]
       have j0 : (0 : Int) ≤ (j : Int) := Int.natCast_nonneg _
       subst ea
       clear HGu HU hcx hh ho hbr hvr
       go_wp2_with (first
        | (go_at_call 31; refine HMv.out.mono ?_; rintro e w11 ⟨rfl, hb11⟩; have HO11 : Hid (Jo w11 w7.heap.size 52 .u64 (.slice s2 n2 cp2) n2 G) := HO.out.later hb11; have HB11 : Hid (Below w7.heap.size w7 w11) := HB.out.trans (hb11.mono HB.out.size); have HV11 : Hid (Vq w11 bj 3 #[.int .i64 (k : Int)]) := HVr.out.later hb11; clear hb11)
        | (at_builtin; refine wpList_append_own _ rfl _ _ 25 rfl w7.heap.size 52 u0 (.int .u64 0) 1 8 Tryz.underlying25 hu0 hy0 hy1 hy2 rfl (by decide) _ n2 (jrow .u64 n2 G).toList rfl (World.ownsRow.alloc HO11.out _) ⟨w11.heap.size, 0, none⟩ 1 1 [.int .u64 (g : Int)] rfl rfl (qcn _ _ _ _) (qco _ _) (by unfold maxLen; omega) (by omega) (by have := HB11.out.size; simp; omega) ?_; intro v3 w13 hown3 hgrow3 _; have HO3 : Hid (Jo w13 w7.heap.size 52 .u64 v3 (n2 + 1) G) := (by show World.ownsRow _ _ _ _ _ _ _; rw [← qe5, HGi.out]; exact hown3); have HB13 : Hid (Below w7.heap.size w7 w13) := (HB11.out.alloc HB11.out.size _).grown hgrow3 (by have := HB11.out.size; simp; omega) (qab HO11.out); have HV13 : Hid (Vq w13 bj 3 #[.int .i64 (k : Int)]) := qgl (HV11.out.later (qa1 _ _)) (World.ownsRow.alloc HO11.out _) hgrow3; obtain ⟨s3, d3, e3, _⟩ := HO3.out.form; subst e3; clear hown3 hgrow3))
       go_roundg (gk - 1)
       case measure => omega
       case rel => exact ⟨j + 1, n2 + 1, d3, s3, by go_num, rfl, by omega, by omega, by have := HN2.out; omega, HO3.out, HB13.out, HV13.out⟩
      ·have hltj2 : ¬ (j : Int) < (mb : Int) := by omega
       obtain rfl : j = mb := by omega
       have hfin : n1 + (k + 1) * j = n2 := by have := HN3.out; have := HN2.out; rw [Nat.add_mul]; omega
       have HFin : Hid (n1 + (k + 1) * j = n2) := hfin
       clear hfin ho hbr hvr
       go_wp2
       go_roundg gz
       case measure => have := HGZ.out; omega
       case rel => exact ⟨k + 1, n2, cp2, s2, by go_num, rfl, by omega, by have := HGZ.out; omega, HFin.out, HO.out, HB.out⟩
    ·have hltk2 : ¬ (k : Int) < (ra : Int) := by omega
     obtain rfl : k = ra := by omega
     have hfin : n3 = M := by have := HN3.out; have := HN1.out; have := HMm.out; omega
     subst hfin
     have HXr : Hid (Vq wr v6 24 #[.int .i64 (RR : Int), .int .i64 (CC : Int), .slice (some ⟨gd, 0, none⟩) N N]) := HX7.out.later hbr
     have v0 := HXr.out.cell 0 _ rfl
     have v1 := HXr.out.cell 1 _ rfl
     have v2 := HXr.out.cell 2 _ rfl
     have HZr : Hid (Vq wr zb 27 #[.int .i64 0, .int .i64 0, .slice none 0 0, .slice none 0 0]) := HZ.out.later HBw.out
     have z0 := HZr.out.cell 0 _ rfl
     have z1 := HZr.out.cell 1 _ rfl
     have z2 := HZr.out.cell 2 _ rfl
     have z3 := HZr.out.cell 3 _ rfl
     have y0 := HZr.out.free 0
     have y1 := HZr.out.free 1
     have y2 := HZr.out.free 2
     have y3 := HZr.out.free 3
     have HRr : Hid (RowAt wr gd 5 N kf) := HR7.out.later hbr
     obtain ⟨hp1, hp2⟩ := qba HZr.out (.int .i64 (RR : Int)) (.int .i64 (CC : Int)) (.slice (some ⟨gd, 0, none⟩) N N) (.slice s3x n3 cp3)
     have HP1 := jhidv hp1
     have HP2 := jhidv hp2
     clear hp1 hp2 ho hbr
     go_wp2
     refine bodyPost_ret (qae Tryz.results9 _ _ zb _ _ _ _ _ rfl rfl HP1.out) rfl ?_
     have hgd := HGd.out
     have hsw := HB0.out.size
     have hrw := HRr.out.kept HP2.out (qhi HRr.out HZr.out)
     have hjo := (HO.out.kept HP2.out (qfa HO.out (by have := HB7.out.size; omega))).mono (B' := w.heap.size) (by have := HB7.out.size; omega)
     have hbel := (qa0 HB0.out HBw.out).grown HP2.out (qa0 HB0.out HBw.out).size (fun g e => (by cases e; omega))
     exact pra_mk HN.out HKf.out HGf.out hrw (by omega) hjo hbel
end Go.Proofs.YtmgfeepnkahkmaaGreat
