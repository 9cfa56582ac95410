/-
  Stage 13: the names of expressions, as the reference gathers them.
-/
import Derived.Test.YtemhodenkgngmaaDoorQuues00
import Derived.Test.YtemhodenkgngmaaDoorQuues32
import Derived.Deep.Upon
import Derived.Deep.RegionHeld
set_option maxRecDepth 100000
set_option maxHeartbeats 16000000
namespace Go.Proofs.YtemhodenkgngmaaDoor
open Go.RowKit Go.Shelf Go.Maps
/-- The cells of some uses. -/
def urow (L : List Us) : List Value := L.flatMap (fun u => [.string u.nm, .int .i64 (u.k : Int), .int .i64 u.ln, .int .i64 u.cl])
theorem qcs (L M : List Us) : urow (L ++ M) = urow L ++ urow M := by unfold urow; rw [List.flatMap_append]
theorem urow_len : ∀ L : List Us, (urow L).length = L.length * 4 := by
 intro L
 induction L with
 | nil => rfl
 | cons c L ih => show (urow L).length + 1 + 1 + 1 + 1 = (L.length + 1) * 4; omega
theorem urow_one : ∀ (L : List Us), ∀ u ∈ urow L, u.oneCell' = true := by
 intro L u hu
 obtain ⟨x, _, hx⟩ := List.mem_flatMap.1 hu
 simp at hx
 rcases hx with rfl | rfl | rfl | rfl <;> rfl
theorem urow_get : ∀ (L : List Us) (i : Nat) (c : Us), L[i]? = some c → (urow L)[i * 4]? = some (.string c.nm) ∧ (urow L)[i * 4 + 1]? = some (.int .i64 (c.k : Int)) ∧ (urow L)[i * 4 + 2]? = some (.int .i64 c.ln) ∧ (urow L)[i * 4 + 3]? = some (.int .i64 c.cl) := by
 intro L
 induction L with
 | nil => intro i c h; cases h
 | cons x L ih =>
  intro i c h
  cases i with
  | zero => cases h; exact ⟨rfl, rfl, rfl, rfl⟩
  | succ i =>
   have h2 : L[i]? = some c := by simpa using h
   obtain ⟨h3, h4, h5, h6⟩ := ih i c h2
   have e : (i + 1) * 4 = i * 4 + 1 + 1 + 1 + 1 := by omega
   rw [e]
   exact ⟨h3, h4, h5, h6⟩
/-- A list of uses of the call's own. -/
def Uw (w : World) (B : Nat) (v : Value) (L : List Us) : Prop := w.ownsRow B 87 4 v L.length (urow L)
theorem Uw.nil (w : World) (B : Nat) : Uw w B (.slice none 0 0) [] := World.ownsRow_nil _ _ _ _
theorem Uw.later {w w' : World} {B : Nat} {v : Value} {L : List Us} (h : Uw w B v L) (hb : Below w.heap.size w w') : Uw w' B v L := World.ownsRow.kept h (jgrown.mpr hb) (by cases hv : v.ownBlock <;> simp)
theorem Uw.form {w : World} {B : Nat} {v : Value} {L : List Us} (h : Uw w B v L) : ∃ a d, v = .slice a L.length d ∧ (a = none → L.length = 0 ∧ d = 0) := by
 rcases h.2 with ⟨e, h0⟩ | ⟨g, cap, cur, e, _⟩
 ·exact ⟨none, 0, by rw [e, h0], fun _ => ⟨h0, rfl⟩⟩
 ·exact ⟨_, _, e, fun x => by cases x⟩
theorem Uw.base {w : World} {B : Nat} {v : Value} {L : List Us} (h : Uw w B v L) {g : Nat} (hg : v.ownBlock = some g) : B ≤ g ∧ g < w.heap.size := by
 rcases h.2 with ⟨e, _⟩ | ⟨g', cap, cur, e, hB, hb, _⟩
 ·rw [e] at hg; simp [Value.ownBlock] at hg
 ·rw [e] at hg; simp [Value.ownBlock] at hg; subst hg; exact ⟨hB, lt_of_block hb⟩
theorem Uw.low {w : World} {B C : Nat} {v : Value} {L : List Us} (h : Uw w B v L) (hc : C ≤ B) : Uw w C v L := by
 refine ⟨h.1, ?_⟩
 rcases h.2 with h | ⟨g, cap, cur, e, hB, hr⟩
 ·exact .inl h
 ·exact .inr ⟨g, cap, cur, e, by omega, hr⟩
theorem juse : (Tryd.prog.info? 87).map (fun i => (i.zero, i.size, i.bytes)) = some (some (.agg #[.string ⟨#[]⟩, .int .i64 0, .int .i64 0, .int .i64 0]), 4, 40) := by kernel_rfl
theorem qca {ops : Array Oper} {op : Oper} {a : Act} {w : World} {K : Act → World → Prop} {Q : Exit → Act → World → Prop} {E : Prop} (hgd : op.guard = none) (sl x : Operand) (ho : op.op = .call { callee := .builtin .append, args := #[sl, x], argTypes := #[84, 84] })
  (B : Nat) (v : Value) (L : List Us) (c : Us) (hs : a.eval sl = v) (hown : Uw w B v L) (ad : Addr) (hx : a.eval x = .slice (some ad) 1 1) (hc : ∀ j u, [Value.string c.nm, .int .i64 (c.k : Int), .int .i64 c.ln, .int .i64 c.cl][j]? = some u → w.cell? (ad.add j) = some u) (hlim : L.length ≤ 1000000000) (hB : B ≤ w.heap.size)
  (h : ∀ v' w', Uw w' B v' (L ++ [c]) → Below B w w' → K (a.put op.dst v') w') : if Region.wanted op (yielded ops a.tmps) = true then Oper.wp Tryd.prog op a w K Q else E := by
 obtain ⟨i0, hi0, hz0, hz1, hz2⟩ := info_parts juse
 have hw : Region.wanted op (yielded ops a.tmps) = true := by simp [Region.wanted, hgd]
 rw [if_pos hw]
 refine wp_append_own w sl x 84 ho B 87 i0 (.agg #[.string ⟨#[]⟩, .int .i64 0, .int .i64 0, .int .i64 0]) 4 40 Tryd.underlying84 hi0 hz0 hz1 hz2 rfl (by decide) v L.length _ hs hown ad 1 1 [.string c.nm, .int .i64 (c.k : Int), .int .i64 c.ln, .int .i64 c.cl] hx rfl hc (by intro u hu; simp at hu; rcases hu with rfl | rfl | rfl | rfl <;> rfl) (by unfold maxLen; omega) (by omega) hB (fun v' w' h1 h2 _ => h v' w' ?_ (jbelow h2 hB (fun k hk => (hown.base hk).1)))
 unfold Uw
 rw [qcs, List.length_append]
 exact h1
/-- A list put behind another one. -/
theorem qa3 {ops : Array Oper} {rest : List Oper} {op : Oper} {a : Act} {w : World} {Q : Exit → Act → World → Prop} (hgd : op.guard = none) (sl x : Operand) (ho : op.op = .call { callee := .builtin .append, args := #[sl, x], argTypes := #[84, 84] })
  (B : Nat) (v : Value) (L : List Us) (hs : a.eval sl = v) (hown : Uw w B v L) (B2 : Nat) (v2 : Value) (M : List Us) (hx : a.eval x = v2) (hM : Uw w B2 v2 M) (hlim : L.length + M.length ≤ 1000000000) (hB : B ≤ w.heap.size)
  (h : ∀ v' w', Uw w' B v' (L ++ M) → Below B w w' → wpList Tryd.prog ops Q rest (a.put op.dst v') w') : wpList Tryd.prog ops Q (op :: rest) a w := by
 obtain ⟨i0, hi0, hz0, hz1, hz2⟩ := info_parts juse
 rcases hM.2 with ⟨e, h0⟩ | ⟨g, cap, cur, e, hr⟩
 ·obtain rfl : M = [] := List.eq_nil_of_length_eq_zero h0
  rw [List.append_nil] at h
  obtain ⟨a1, d1, e1, hz⟩ := hown.form
  have hle : L.length ≤ d1 := by
   rcases hown.2 with ⟨e2, h2⟩ | ⟨g2, cap2, cur2, e2, _, _, hc2, _⟩
   ·omega
   ·rw [e1] at e2; cases e2; exact hc2
  have hsrc : Src Tryd.prog i0.size 84 (.slice none 0 0) 0 [] w := ⟨.inl ⟨_, Tryd.underlying84⟩, fun w' => rfl, by simp [Builtin.firstCells], by simp [Builtin.firstCells], by simp, fun u hu => by cases hu⟩
  have hr := run_append_nothing (P := Tryd.prog) w 84 84 op.type 87 i0 Tryd.underlying84 hi0 a1 L.length d1 hle (.slice none 0 0) hsrc
  refine wpList_plain hgd fun K hK => ?_
  unfold Oper.wp execOp
  rw [e1] at hs
  rw [e] at hx
  simp only [ho, resolve, invoke, builtin, Sem.run_bind, Sem.run_pure, Result.andThen_ok, List.map_toArray, List.map_cons, List.map_nil, hs, hx, hr]
  refine hK _ _ (h _ w ?_ (Below.refl _ _))
  rw [← e1]; exact hown
 ·rw [e] at hx
  refine wpList_append_own w hgd sl x 84 ho B 87 i0 (.agg #[.string ⟨#[]⟩, .int .i64 0, .int .i64 0, .int .i64 0]) 4 40 Tryd.underlying84 hi0 hz0 hz1 hz2 rfl (by decide) v L.length _ hs hown ⟨g, 0, none⟩ M.length cap (urow M) hx (urow_len M) (World.ownsRow.cells hM (g := g) (by rw [e]; rfl)) (urow_one M) (by unfold maxLen; omega) (by omega) hB (fun v' w' h1 h2 _ => h v' w' ?_ (jbelow h2 hB (fun k hk => (hown.base hk).1)))
  unfold Uw
  rw [qcs, List.length_append]
  exact h1
theorem mx_cnt {d : Nat} {T : Xt} (h : MX d T) : (xus d T).length ≤ 8192 := by
 obtain ⟨left, h1, h2⟩ := h
 have := qc7 h2
 omega
theorem qb1 {d : Nat} {G : Nat → Xt} : ∀ {n : Nat}, (∀ i, i < n → MX d (G i)) → (xcat (xus d) G n).length ≤ n * 8192 := by
 intro n
 induction n with
 | zero => intro _; exact Nat.le_refl _
 | succ n ih =>
  intro h
  have h1 := ih (fun i hi => h i (by omega))
  have h2 := mx_cnt (h n (by omega))
  rw [qe2]
  omega
theorem MX.name {d : Nat} {T : Xt} (h : MX (d + 1) T) (hk : (T []).k = 2) : (T []).len = 0 := by
 obtain ⟨left, _, h⟩ := h
 obtain ⟨m, hw, _⟩ := qa9 h
 unfold xwant at hw
 rw [if_neg (by omega), if_pos hk] at hw
 split at hw
 ·rename_i g; exact g.2.2
 ·cases hw
theorem XV.inv {w : World} {k nl kc : Nat} {nn ll cc : Int} {nm : ByteArray} {ka : Option Addr} {T : Xt} (h : XV w (.agg #[.int .u8 (k : Int), .int .i64 nn, .string nm, .slice ka nl kc, .int .i64 ll, .int .i64 cc]) T) : k = (T []).k ∧ nm = (T []).nm ∧ nl = (T []).len ∧ ll = (T []).ln ∧ cc = (T []).cl ∧ ∀ d, XL d w ka nl (kid T) := by
 obtain ⟨⟨a, cap, e, hl⟩, _⟩ := h
 simp at e
 obtain ⟨e1, e2, e3, ⟨e4, e5, e6⟩, e7, e8⟩ := e
 subst e4
 refine ⟨by omega, e3, e5, e7, e8, fun d => ?_⟩
 rw [e5]
 exact hl d
/-- The reference's exprs. -/
theorem qb9 : ∀ (d : Nat) (w : World) (a : Option Addr) (n c : Nat) (G : Nat → Xt), (∀ e, XL e w a n G) → (∀ i, i < n → MX d (G i)) → n ≤ 64 → Calls Tryd.prog 42 #[.slice a n c] w fun e w' => (∃ v, e = .returned v ∧ Uw w' w.heap.size v (xcat (xus d) G n)) ∧ Below w.heap.size w w' := by
 intro d
 induction d with
 | zero =>
  intro w a n c G _ hM _
  obtain rfl : n = 0 := by
   rcases Nat.eq_zero_or_pos n with h | h
   ·exact h
   ·exact (hM 0 h).no.elim
  clear hM
  go_enter Tryd.func42, Tryd.ntmps42
  go_wp2
  go_loopw [3, 4] (fun v vi wr => v = .slice none 0 0 ∧ vi = .int .i64 0 ∧ wr = w) (fun _ _ _ => 0)
  case atStart => exact ⟨rfl, rfl, rfl⟩
  case round =>
   obtain ⟨rfl, rfl, rfl⟩ := hrel
   go_wp2
   go_ret
   exact ⟨⟨_, rfl, Uw.nil _ _⟩, Below.refl _ _⟩
 | succ d ih =>
  intro w a n c G hG hM hn
  have HG := qa0 hG
  have HM := qa0 hM
  have IH := qa0 ih
  clear hG hM ih
  go_enter Tryd.func42, Tryd.ntmps42
  go_wp2
  go_loopw [3, 4] (fun v vi wr => ∃ (i : Nat) (L : List Us), i ≤ n ∧ vi = .int .i64 (i : Int) ∧ Hid (xcat (xus (d + 1)) G i = L) ∧ (∃ x dd, v = .slice x L.length dd) ∧ Hid (Uw wr w.heap.size v L) ∧ Hid (Below w.heap.size w wr)) (fun _ vi _ => n - (intOf vi).toNat)
  case atStart => exact ⟨0, [], by omega, rfl, rfl, ⟨none, 0, rfl⟩, Uw.nil _ _, Below.refl _ _⟩
  case round =>
   obtain ⟨i, L, hi, rfl, HL, ⟨x, dd, rfl⟩, HU, HB⟩ := hrel
   by_cases hlt : i < n
   ·have p0 : (0 : Int) ≤ (i : Int) := by omega
    have p1 : (i : Int) < (n : Int) := by omega
    obtain ⟨b, o, k, nl, nn, ll, cc, nm, ka, kc, rfl, hXV, hcl⟩ := XL.at_ HG.out hlt
    have Hcl : Hid (∀ w', Below w.heap.size w w' → w'.cell? ⟨b, o + i * 6, none⟩ = some (.int .u8 (k : Int)) ∧ w'.cell? ⟨b, o + i * 6 + 1, none⟩ = some (.int .i64 nn) ∧ w'.cell? ⟨b, o + i * 6 + 2, none⟩ = some (.string nm) ∧ w'.cell? ⟨b, o + i * 6 + 3, none⟩ = some (.slice ka nl kc) ∧ w'.cell? ⟨b, o + i * 6 + 4, none⟩ = some (.int .i64 ll) ∧ w'.cell? ⟨b, o + i * 6 + 5, none⟩ = some (.int .i64 cc)) := hcl
    obtain ⟨t0, -, t2, t3, t4, t5⟩ := hcl wr HB.out
    obtain ⟨e1, e2, e3, e4, e5, hkl⟩ := hXV.inv
    have hMX := HM.out i hlt
    have hfew := qb1 (d := d + 1) (G := G) (n := i) (fun q hq => HM.out q (by omega))
    rw [HL.out] at hfew
    have hnl2 : nl ≤ 2 := by rw [e3]; exact hMX.len
    obtain ⟨M, HMM⟩ : ∃ M, Hid (xcat (xus d) (kid (G i)) nl = M) := ⟨_, rfl⟩
    have hfm := qb1 (d := d) (G := kid (G i)) (n := nl) (fun q hq => hMX.kid (by omega))
    rw [HMM.out] at hfm
    have HKid : Hid (∀ w' : World, Below w.heap.size w w' → Calls Tryd.prog 42 #[.slice ka nl kc] w' fun e w'' => (∃ v, e = .returned v ∧ Uw w'' w'.heap.size v M) ∧ Below w'.heap.size w' w'') := fun w' hb => by
     have h := IH.out w' ka nl kc (kid (G i)) (fun e => (hkl e).later hb) (fun q hq => hMX.kid (by omega)) (by omega)
     rw [HMM.out] at h
     exact h
    have hsum : L.length + 1 + M.length ≤ 1000000000 := by omega
    have Hs0 := qa0 hsum
    by_cases hk : k = 2
    ·have hl0 : nl = 0 := by rw [e3]; exact hMX.name (by omega)
     obtain ⟨L1, HL1⟩ : ∃ L1, Hid (L ++ [(⟨nm, 1, ll, cc⟩ : Us)] = L1) := ⟨_, rfl⟩
     obtain ⟨L8, HL8⟩ : ∃ L8, Hid (L1 ++ M = L8) := ⟨_, rfl⟩
     have HL2 : Hid (xcat (xus (d + 1)) G (i + 1) = L8) := by
      show _ = _
      rw [← HL8.out, ← HL1.out]
      show xcat (xus (d + 1)) G i ++ xus (d + 1) (G i) = _
      rw [HL.out, ← HMM.out, hl0]
      show L ++ (if (G i []).k = 2 then [xu (G i)] else xcat (xus d) (kid (G i)) (G i []).len) = L ++ [_] ++ []
      rw [if_pos (by omega), List.append_nil]
      show L ++ [(⟨(G i []).nm, 1, (G i []).ln, (G i []).cl⟩ : Us)] = _
      rw [e2, e4, e5]
     have q0 : ((k : Int) == 2) = true := by simp; omega
     have Hs1 : Hid (L1.length + M.length ≤ 1000000000) := by show _ ≤ _; rw [← HL1.out, List.length_append]; exact hsum
     clear hsum hXV hcl hkl hMX hfew hfm hnl2 hl0 hk e1 e2 e3 e4 e5 HMM HL HM HG IH
     go_wp2
     refine wp_region_held (S := fun w' => w'.cell? ⟨b, o + i * 6 + 2, none⟩ = some (.string nm) ∧ w'.cell? ⟨b, o + i * 6 + 4, none⟩ = some (.int .i64 ll) ∧ w'.cell? ⟨b, o + i * 6 + 5, none⟩ = some (.int .i64 cc)) (by kernel_rfl) ?_
     change wpAnyH _ _ _ _ _ _ _ _ (World.drew _)
     obtain ⟨wd, HWd⟩ : ∃ wd, Hid (wr.drew = wd) := ⟨_, rfl⟩
     have HBd : Hid (Below wr.heap.size wr wd) := by show Below _ _ _; rw [← HWd.out]; exact (Below.refl _ _).drew
     rw [HWd.out]
     clear HWd
     have HSd : Hid (wd.cell? ⟨b, o + i * 6 + 2, none⟩ = some (.string nm) ∧ wd.cell? ⟨b, o + i * 6 + 4, none⟩ = some (.int .i64 ll) ∧ wd.cell? ⟨b, o + i * 6 + 5, none⟩ = some (.int .i64 cc)) := ⟨cell_kept t2 HBd.out, cell_kept t4 HBd.out, cell_kept t5 HBd.out⟩
     have HB2 := qa0 (jtwo HB.out HBd.out)
     have HC2 := qa0 (HU.out.later HBd.out)
     refine wtkq 0 ?v0 rfl (by kernel_rfl) (fun _ _ _ h => h) (by rfl) ?y0 HSd.out ?z0
     case y0 => (intro wq hSw; (try dsimp only at hSw); obtain ⟨s1, s2, s3⟩ := hSw; go_simp; try with_reducible rfl)
     try simp only [mz1, mz3, Act.put, mz4, mz5, mz6]
     refine wtkq 1 ?v1 rfl (by kernel_rfl) (fun _ _ _ h => h) (by rfl) ?y1 HSd.out ?z1
     case y1 => (intro wq hSw; (try dsimp only at hSw); obtain ⟨s1, s2, s3⟩ := hSw; go_simp; try with_reducible rfl)
     try simp only [mz1, mz2, mz3, Act.put, mz4, mz5, mz6]
     refine wtkq 2 ?v2 rfl (by kernel_rfl) (fun _ _ _ h => h) (by rfl) ?y2 HSd.out ?z2
     case y2 => (intro wq hSw; (try dsimp only at hSw); obtain ⟨s1, s2, s3⟩ := hSw; go_simp; try with_reducible rfl)
     try simp only [mz1, mz2, mz3, Act.put, mz4, mz5, mz6]
     refine wtkq 3 ?v3 rfl (by kernel_rfl) (fun _ _ _ h => h) (by rfl) ?y3 HSd.out ?z3
     case y3 => (intro wq hSw; (try dsimp only at hSw); obtain ⟨s1, s2, s3⟩ := hSw; go_simp; try with_reducible rfl)
     try simp only [mz1, mz2, mz3, Act.put, mz4, mz5, mz6]
     refine wtkq 4 ?v4 rfl (by kernel_rfl) (fun _ _ _ h => h) (by rfl) ?y4 HSd.out ?z4
     case y4 => (intro wq hSw; (try dsimp only at hSw); obtain ⟨s1, s2, s3⟩ := hSw; go_simp; try with_reducible rfl)
     try simp only [mz1, mz2, mz3, Act.put, mz4, mz5, mz6]
     refine wtkq 5 ?v5 rfl (by kernel_rfl) (fun _ _ _ h => h) (by rfl) ?y5 HSd.out ?z5
     case y5 => (intro wq hSw; (try dsimp only at hSw); obtain ⟨s1, s2, s3⟩ := hSw; go_simp; try with_reducible rfl)
     try simp only [mz1, mz2, mz3, Act.put, mz4, mz5, mz6]
     refine wtkq 6 ?v6 rfl (by kernel_rfl) (fun _ _ _ h => h) (by rfl) ?y6 HSd.out ?z6
     case y6 => (intro wq hSw; (try dsimp only at hSw); obtain ⟨s1, s2, s3⟩ := hSw; go_simp; try with_reducible rfl)
     try simp only [mz1, mz2, mz3, Act.put, mz4, mz5, mz6]
     refine wtkq 7 ?v7 rfl (by kernel_rfl) (fun _ _ _ h => h) (by rfl) ?y7 HSd.out ?z7
     case y7 => (intro wq hSw; (try dsimp only at hSw); obtain ⟨s1, s2, s3⟩ := hSw; go_simp; try with_reducible rfl)
     try simp only [mz1, mz2, mz3, Act.put, mz4, mz5, mz6]
     refine wtkq 8 ?v8 rfl (by kernel_rfl) (fun _ _ _ h => h) (by rfl) ?y8 HSd.out ?z8
     case y8 => (intro wq hSw; (try dsimp only at hSw); obtain ⟨s1, s2, s3⟩ := hSw; go_simp; try with_reducible rfl)
     try simp only [mz1, mz2, mz3, Act.put, mz4, mz5, mz6]
     refine wtkq 9 ?v9 rfl (by kernel_rfl) (fun _ _ _ h => h) (by rfl) ?y9 HSd.out ?z9
     case y9 => (intro wq hSw; (try dsimp only at hSw); obtain ⟨s1, s2, s3⟩ := hSw; go_simp; try with_reducible rfl)
     try simp only [mz1, mz2, mz3, Act.put, mz4, mz5, mz6]
     refine wtkq 10 ?v10 rfl (by kernel_rfl) (fun _ _ _ h => h) (by rfl) ?y10 HSd.out ?z10
     case y10 => (intro wq hSw; (try dsimp only at hSw); obtain ⟨s1, s2, s3⟩ := hSw; go_simp; try with_reducible rfl)
     try simp only [mz1, mz2, mz3, Act.put, mz4, mz5, mz6]
     refine wtkq 11 ?v11 rfl (by kernel_rfl) (fun _ _ _ h => h) (by rfl) ?y11 HSd.out ?z11
     case y11 => (intro wq hSw; (try dsimp only at hSw); obtain ⟨s1, s2, s3⟩ := hSw; go_simp; try with_reducible rfl)
     try simp only [mz1, mz2, mz3, Act.put, mz4, mz5, mz6]
     refine wtkq 12 ?v12 rfl (by kernel_rfl) (fun _ _ _ h => h) (by rfl) ?y12 HSd.out ?z12
     case y12 => (intro wq hSw; (try dsimp only at hSw); obtain ⟨s1, s2, s3⟩ := hSw; go_simp; try with_reducible rfl)
     try simp only [mz1, mz2, mz3, Act.put, mz4, mz5, mz6]
     refine wtkq 13 ?v13 rfl (by kernel_rfl) (fun _ _ _ h => h) (by rfl) ?y13 HSd.out ?z13
     case y13 => (intro wq hSw; (try dsimp only at hSw); obtain ⟨s1, s2, s3⟩ := hSw; go_simp; try with_reducible rfl)
     try simp only [mz1, mz2, mz3, Act.put, mz4, mz5, mz6]
     refine wtkq 14 ?v14 rfl (by kernel_rfl) (fun _ _ _ h => h) (by rfl) ?y14 HSd.out ?z14
     case y14 => (intro wq hSw; (try dsimp only at hSw); obtain ⟨s1, s2, s3⟩ := hSw; go_simp; try with_reducible rfl)
     try simp only [mz1, mz2, mz3, Act.put, mz4, mz5, mz6]
     refine wtkq 15 ?v15 rfl (by kernel_rfl) (fun _ _ _ h => h) (by rfl) ?y15 HSd.out ?z15
     case y15 => (intro wq hSw; (try dsimp only at hSw); obtain ⟨s1, s2, s3⟩ := hSw; go_simp; try with_reducible rfl)
     try simp only [mz1, mz2, mz3, Act.put, mz4, mz5, mz6]
     refine wtkq 16 ?v16 rfl (by kernel_rfl) (fun _ _ _ h => h) (by rfl) ?y16 HSd.out ?z16
     case y16 => (intro wq hSw; (try dsimp only at hSw); obtain ⟨s1, s2, s3⟩ := hSw; go_simp; try with_reducible rfl)
     try simp only [mz1, mz2, mz3, Act.put, mz4, mz5, mz6]
     refine wpAnyH_ready (rs := [17]) (by kernel_rfl) (by simp) ?_
     refine AllReadyH.cons rfl (fun KK hKK => ?_) AllReadyH.nil
     go_simp
     refine hKK.out _ _ ⟨cell_kept HSd.out.1 (jlow _ _), cell_kept HSd.out.2.1 (jlow _ _), cell_kept HSd.out.2.2 (jlow _ _)⟩ (fun _ => ?_)
     clear hKK KK
     try simp only [mz1, mz2, mz3, Act.put, mz4, mz5, mz6]
     refine wpAnyH_ready (rs := [18]) (by kernel_rfl) (by simp) ?_
     refine AllReadyH.cons rfl (fun KK hKK => ?_) AllReadyH.nil
     refine qca rfl _ _ rfl w.heap.size _ L ⟨nm, 1, ll, cc⟩ rfl (HC2.out.later (jlow _ _)) ⟨wd.heap.size, 0, none⟩ rfl (qb5 _ _ _) (by have := Hs0.out; omega) (by have := HB2.out.size; simp; omega) ?_
     intro v' w6 hT6 hb6
     have HB6 := qa0 ((HB2.out.trans ((jlow _ _).mono HB2.out.size)).trans hb6)
     rw [HL1.out] at hT6
     obtain ⟨x', d', rfl, -⟩ := hT6.form
     have HT6 := qa0 hT6
     clear hT6
     have HSe : Hid (w6.cell? ⟨b, o + i * 6 + 2, none⟩ = some (.string nm) ∧ w6.cell? ⟨b, o + i * 6 + 4, none⟩ = some (.int .i64 ll) ∧ w6.cell? ⟨b, o + i * 6 + 5, none⟩ = some (.int .i64 cc)) := (fun h => ⟨h.2.2.1, h.2.2.2.2.1, h.2.2.2.2.2⟩) (Hcl.out w6 HB6.out)
     refine hKK.out _ _ HSe.out (fun _ => ?_)
     clear hKK KK
     try simp only [mz1, mz2, mz3, Act.put, mz4, mz5, mz6]
     refine wtkq 19 ?v19 rfl (by kernel_rfl) (fun _ _ _ h => h) (by rfl) ?y19 HSe.out ?z19
     case y19 => (intro wq hSw; (try dsimp only at hSw); go_simp; try with_reducible rfl)
     try simp only [mz1, mz2, mz3, Act.put, mz4, mz5, mz6]
     refine wpAnyH_done (by kernel_rfl) ?_ _
     try simp only [mz1, mz2, mz3, Act.put, mz4, mz5, mz6]
     have t3 := (Hcl.out w6 HB6.out).2.2.2.1
     go_wp2_with (first
      | (go_at_call 42; go_loud (refine (HKid.out _ HB6.out).mono ?_; rintro e w7 ⟨⟨v7, rfl, h7⟩, hb7⟩; have H7 := qa0 h7; have HB7 := qa0 (jtwo HB6.out hb7); have HT7 := qa0 (HT6.out.later hb7); clear h7 hb7))
      | (refine qa3 rfl _ _ rfl w.heap.size _ L1 rfl HT7.out _ _ M rfl H7.out Hs1.out HB7.out.size ?_; go_loud (intro v8 w8 hT8 hb8; rw [HL8.out] at hT8; have HB8 := qa0 (HB7.out.trans hb8); obtain ⟨x8, d8, rfl, -⟩ := hT8.form; have HT8 := qa0 hT8; clear hT8 hb8)))
     exact ⟨⟨i + 1, _, by omega, by go_num, HL2, ⟨x8, d8, rfl⟩, HT8, HB8⟩, by simp [intOf]; omega⟩
    ·obtain ⟨L8, HL8⟩ : ∃ L8, Hid (L ++ M = L8) := ⟨_, rfl⟩
     have HL2 : Hid (xcat (xus (d + 1)) G (i + 1) = L8) := by
      show _ = _
      rw [← HL8.out]
      show xcat (xus (d + 1)) G i ++ xus (d + 1) (G i) = _
      rw [HL.out, ← HMM.out, e3]
      show L ++ (if (G i []).k = 2 then [xu (G i)] else xcat (xus d) (kid (G i)) (G i []).len) = _
      rw [if_neg (by omega)]
     have q0 : ((k : Int) == 2) = false := by simp; omega
     have Hs1 : Hid (L.length + M.length ≤ 1000000000) := by show _ ≤ _; omega
     clear hsum hXV hcl hkl hMX hfew hfm hnl2 hk e1 e2 e3 e4 e5 HMM HL HM HG IH
     go_wp2_with (first
      | (go_at_call 42; go_loud (refine (HKid.out _ HB.out).mono ?_; rintro e w7 ⟨⟨v7, rfl, h7⟩, hb7⟩; have H7 := qa0 h7; have HB7 := qa0 (jtwo HB.out hb7); have HT7 := qa0 (HU.out.later hb7); clear h7 hb7))
      | (refine qa3 rfl _ _ rfl w.heap.size _ L rfl HT7.out _ _ M rfl H7.out Hs1.out HB7.out.size ?_; go_loud (intro v8 w8 hT8 hb8; rw [HL8.out] at hT8; have HB8 := qa0 (HB7.out.trans hb8); obtain ⟨x8, d8, rfl, -⟩ := hT8.form; have HT8 := qa0 hT8; clear hT8 hb8)))
     exact ⟨⟨i + 1, _, by omega, by go_num, HL2, ⟨x8, d8, rfl⟩, HT8, HB8⟩, by simp [intOf]; omega⟩
   ·obtain rfl : i = n := by omega
    go_wp2
    go_ret
    refine ⟨⟨_, rfl, ?_⟩, HB.out⟩
    rw [HL.out]
    exact HU.out
end Go.Proofs.YtemhodenkgngmaaDoor
