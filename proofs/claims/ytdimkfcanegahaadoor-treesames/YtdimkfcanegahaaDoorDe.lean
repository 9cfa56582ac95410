/-
  Contracts of the program's tree: a line of tokens (line, put, text).
-/
import Derived.Test.YtdimkfcanegahaaDoorDc
import Derived.Test.YtdimkfcanegahaaDoorGb
namespace Go.Proofs.YtdimkfcanegahaaDoor
open Go.RowKit
theorem mkf10 : ∀ (fn : Fn) (first cap : Array Value) (w : World), (Instr.makeFunc fn first cap).run Tryd.prog w = .ok (.func fn first cap) w := fun _ _ _ _ => rfl
/-- The cells of a token, of tokens. -/
def tvc (t : TV) : List Value := [.int .u8 (t.k : Int), .string t.tx, .int .i64 t.n, .int .i64 t.ln, .int .i64 t.cl]
def tvr (L : List TV) : List Value := L.flatMap tvc
theorem tvr_snoc (L : List TV) (t : TV) : tvr (L ++ [t]) = tvr L ++ tvc t := by simp [tvr]
theorem tvr_len : ∀ L : List TV, (tvr L).length = L.length * 5 := by
  intro L
  induction L with
  | nil => rfl
  | cons t L ih =>
    rw [show tvr (t :: L) = tvc t ++ tvr L from rfl, List.length_append, ih, List.length_cons]
    show 5 + _ = _
    omega
/-- A list of tokens of the call's own. -/
def Tvl (w : World) (B : Nat) (v : Value) (L : List TV) : Prop := w.ownsRow B 83 5 v L.length (tvr L)
theorem Tvl.nil (w : World) (B : Nat) : Tvl w B (.slice none 0 0) [] := World.ownsRow_nil _ _ _ _
theorem Tvl.later {w w' : World} {B : Nat} {v : Value} {L : List TV} (h : Tvl w B v L) (hb : Below w.heap.size w w') : Tvl w' B v L := World.ownsRow.kept h (jgrown.mpr hb) (by cases hv : v.ownBlock <;> simp)
theorem Tvl.kept {w w' : World} {B : Nat} {v : Value} {L : List TV} {row : Option Nat} (h : Tvl w B v L) (hg : w.grownBy w' row) (hne : v.ownBlock = none ∨ v.ownBlock ≠ row) : Tvl w' B v L := World.ownsRow.kept h hg hne
theorem Tvl.form {w : World} {B : Nat} {v : Value} {L : List TV} (h : Tvl w B v L) : ∃ a d, v = .slice a L.length d := by
  rcases h.2 with ⟨e, h0⟩ | ⟨g, cap, cur, e, _⟩
  · exact ⟨none, 0, by rw [e, h0]⟩
  · exact ⟨_, _, e⟩
theorem Tvl.base {w : World} {B : Nat} {v : Value} {L : List TV} (h : Tvl w B v L) {g : Nat} (hg : v.ownBlock = some g) : B ≤ g ∧ g < w.heap.size := by
  rcases h.2 with ⟨e, _⟩ | ⟨g', cap, cur, e, hB, hb, _⟩
  · rw [e] at hg; simp [Value.ownBlock] at hg
  · rw [e] at hg; simp [Value.ownBlock] at hg; subst hg; exact ⟨hB, lt_of_block hb⟩
theorem tvr_get : ∀ (L : List TV) (i : Nat) (t : TV), L[i]? = some t → ∀ j, j < 5 → (tvr L)[i * 5 + j]? = (tvc t)[j]? := by
  intro L
  induction L with
  | nil => intro i t h; simp at h
  | cons u L ih =>
    intro i t h j hj
    have hl : (tvc u).length = 5 := rfl
    rw [show tvr (u :: L) = tvc u ++ tvr L from rfl]
    cases i with
    | zero =>
      simp only [List.getElem?_cons_zero, Option.some.injEq] at h
      subst h
      rw [List.getElem?_append_left (by omega)]
      congr 1
      omega
    | succ i =>
      rw [List.getElem?_append_right (by omega), hl, show (i + 1) * 5 + j - 5 = i * 5 + j by omega]
      exact ih i t (by simpa using h) j hj
/-- Such a list as tokens in memory. -/
theorem Tvl.toks {w : World} {B d : Nat} {a : Option Addr} {L : List TV} (h : Tvl w B (.slice a L.length d) L) (hok : ∀ t ∈ L, TvOk t) : Toks w a L.length (gtv L) := by
  refine ⟨fun i hi => ?_, fun i hi => by rw [gtv_at hi]; exact hok _ (List.getElem_mem hi)⟩
  rw [gtv_at hi]
  rcases h.2 with ⟨_, h0⟩ | ⟨g, cap, cur, e, _⟩
  · omega
  · cases e
    have hg := fun j (hj : j < 5) => tvr_get L i L[i] (by simp [hi]) j hj
    have hc : ∀ j, j < 5 → w.cell? ⟨g, 0 + i * 5 + j, none⟩ = (tvc L[i])[j]? := fun j hj => by
      rw [Nat.zero_add, World.ownsRow.cellAt h (i * 5 + j) (by omega)]
      exact hg j hj
    exact ⟨g, 0, rfl, hc 0 (by decide), hc 1 (by decide), hc 2 (by decide), hc 3 (by decide), hc 4 (by decide)⟩
theorem Vn.kept {w w' : World} {b : Nat} {T : TypeId} {xs : Array Value} {row : Option Nat} (h : Vn w b T xs) (hg : w.grownBy w' row) (hne : some b ≠ row) : Vn w' b T xs := by
  have := h.lt
  unfold Vn at *
  rw [hg.block b this hne]
  exact h
/-- A line: its variable, and the tokens that were put. -/
structure Lp (w0 w : World) (bc : Nat) (L : List TV) : Prop where
  low : w0.heap.size ≤ bc
  below : Below w0.heap.size w0 w
  var : ∃ a d, Vn w bc 80 #[.slice a L.length d] ∧ Tvl w (bc + 1) (.slice a L.length d) L
theorem Lp.later {w0 w w' : World} {bc : Nat} {L : List TV} (h : Lp w0 w bc L) (hb : Below w.heap.size w w') : Lp w0 w' bc L := by
  obtain ⟨h1, h2, a, d, h3, h4⟩ := h
  exact ⟨h1, jtwo h2 hb, a, d, h3.later hb, h4.later hb⟩
/-- Nothing is changed but the line: its variable, and lists of tokens. -/
structure Gw (bc : Nat) (w w' : World) : Prop where
  size : w.heap.size ≤ w'.heap.size
  same : ∀ b, b < w.heap.size → b ≠ bc → (∀ xs q, w.heap[b]? ≠ some (.cells xs 83 q)) → w'.heap[b]? = w.heap[b]?
theorem Gw.refl (bc : Nat) (w : World) : Gw bc w w := ⟨Nat.le_refl _, fun _ _ _ _ => rfl⟩
theorem Gw.trans {bc : Nat} {w w1 w2 : World} (h : Gw bc w w1) (g : Gw bc w1 w2) : Gw bc w w2 := by
  refine ⟨Nat.le_trans h.size g.size, fun b hb hn ho => ?_⟩
  have e := h.same b hb hn ho
  rw [g.same b (Nat.lt_of_lt_of_le hb h.size) hn (fun xs q => by rw [e]; exact ho xs q), e]
theorem Gw.of {bc : Nat} {w w' : World} (hb : Below w.heap.size w w') : Gw bc w w' := ⟨hb.size, fun b h _ _ => hb.block b h⟩
theorem Lp.lt {w0 w : World} {bc : Nat} {L : List TV} (h : Lp w0 w bc L) : bc < w.heap.size := by
  obtain ⟨_, _, a, d, h3, _⟩ := h
  exact h3.lt
/-- A variable that is none of the line's. -/
structure Bx (w : World) (bc b : Nat) (T : TypeId) (xs : Array Value) : Prop where
  var : Vn w b T xs
  ne : b ≠ bc
  own : T ≠ 83
theorem Bx.step {w w' : World} {bc b : Nat} {T : TypeId} {xs : Array Value} (h : Bx w bc b T xs) (g : Gw bc w w') : Bx w' bc b T xs := by
  have hlt := h.var.lt
  refine ⟨?_, h.ne, h.own⟩
  have hv := h.var
  unfold Vn at *
  rw [g.same b hlt h.ne (fun ys q e => by rw [hv] at e; cases e; exact h.own rfl)]
  exact hv
theorem Bx.new {w0 w : World} {bc : Nat} {L : List TV} (h : Lp w0 w bc L) (T : TypeId) (xs : Array Value) (hT : T ≠ 83) : Bx (w.alloc (.cells xs T)) bc w.heap.size T xs :=
  ⟨Vn.new w T xs, by have := h.lt; omega, hT⟩
theorem Bx.cell {w : World} {bc b : Nat} {T : TypeId} {xs : Array Value} (h : Bx w bc b T xs) (i : Nat) (v : Value) (hv : xs[i]? = some v) : w.cell? ⟨b, i, none⟩ = some v := h.var.cell i v hv
theorem szToks : (Tryd.prog.info? 80).map (·.size) = some 1 := by kernel_rfl
set_option maxRecDepth 20000 in
set_option maxHeartbeats 4000000 in
theorem tput (w0 w : World) (bc : Nat) (L : List TV) (t : TV) (v : Value) (hv : v = .agg #[.int .u8 (t.k : Int), .string t.tx, .int .i64 t.n, .int .i64 t.ln, .int .i64 t.cl]) (HL : Hid (Lp w0 w bc L)) (hn : L.length ≤ 1000000000) :
    Calls Tryd.prog 60 #[v, .pointer (some ⟨bc, 0, none⟩)] w fun e w' => e = .returned (.tuple #[]) ∧ Lp w0 w' bc (L ++ [t]) ∧ Gw bc w w' := by
  subst hv
  obtain ⟨i0, hi0, hz0, hz1, hz2⟩ := info_parts jtok
  have HLen : Hid ((L ++ [t]).length = L.length + 1) := by show _ = _; simp
  obtain ⟨xs, HXs⟩ : ∃ xs, Hid (tvr L = xs) := ⟨_, rfl⟩
  obtain ⟨ys, HYs⟩ : ∃ ys, Hid (tvr (L ++ [t]) = ys) := ⟨_, rfl⟩
  have HXY : Hid (xs ++ [.int .u8 (t.k : Int), .string t.tx, .int .i64 t.n, .int .i64 t.ln, .int .i64 t.cl] = ys) := by show _ = _; rw [← HXs.out, ← HYs.out, tvr_snoc]; rfl
  obtain ⟨hlow, hbel, a, d, hV, hT⟩ := HL.out
  have hbc := hV.lt
  obtain ⟨n, Hn⟩ : ∃ n, Hid (L.length = n) := ⟨_, rfl⟩
  have HT0 : Hid (w.ownsRow (bc + 1) 83 5 (.slice a n d) n xs) := by show w.ownsRow _ _ _ _ _ _; rw [← Hn.out, ← HXs.out]; exact hT
  have hn2 : n ≤ 1000000000 := by rw [← Hn.out]; exact hn
  rw [Hn.out] at hV HLen
  have HOb : Hid (∀ g, (Value.slice a n d).ownBlock = some g → bc < g ∧ g < w.heap.size) := fun g hg => by
    have := hT.base (g := g) (by rw [Hn.out]; exact hg)
    omega
  clear hT
  generalize t.k = tk at *
  generalize t.tx = tx at *
  generalize t.n = tn at *
  generalize t.ln = tl at *
  generalize t.cl = tc at *
  have hb1 := jlow w (.cells #[.int .u8 (tk : Int), .string tx, .int .i64 tn, .int .i64 tl, .int .i64 tc] 83)
  have hb2 := jtwo hb1 (jlow (w.alloc (.cells #[.int .u8 (tk : Int), .string tx, .int .i64 tn, .int .i64 tl, .int .i64 tc] 83)) (.cells #[.int .u8 (tk : Int), .string tx, .int .i64 tn, .int .i64 tl, .int .i64 tc] 83))
  have v1 := (hV.later hb1).cell 0 _ rfl
  have hvb := Vn.new w 83 #[.int .u8 (tk : Int), .string tx, .int .i64 tn, .int .i64 tl, .int .i64 tc]
  have c0 := hvb.cell 0 _ rfl
  have c1 := hvb.cell 1 _ rfl
  have c2 := hvb.cell 2 _ rfl
  have c3 := hvb.cell 3 _ rfl
  have c4 := hvb.cell 4 _ rfl
  have HNew : Hid (∀ j u, [Value.int .u8 (tk : Int), .string tx, .int .i64 tn, .int .i64 tl, .int .i64 tc][j]? = some u → ((w.alloc (.cells #[.int .u8 (tk : Int), .string tx, .int .i64 tn, .int .i64 tl, .int .i64 tc] 83)).alloc (.cells #[.int .u8 (tk : Int), .string tx, .int .i64 tn, .int .i64 tl, .int .i64 tc] 83)).cell? ((⟨w.heap.size + 1, 0, none⟩ : Addr).add j) = some u) := fun j u hj => by
    have := five_new (w.alloc (.cells #[.int .u8 (tk : Int), .string tx, .int .i64 tn, .int .i64 tl, .int .i64 tc] 83)) [.int .u8 (tk : Int), .string tx, .int .i64 tn, .int .i64 tl, .int .i64 tc] 83 j u hj
    rw [alloc_size] at this
    exact this
  have HV2 := jhid9 (hV.later hb2)
  have HB2 := jhid9 hb2
  have HT2 := jhid9 (World.ownsRow.kept HT0.out (jgrown.mpr hb2) (by cases hv : (Value.slice a n d).ownBlock <;> simp))
  have HBel := jhid9 hbel
  clear hV hvb hb1 hb2 hbel
  go_enter Tryd.func60, Tryd.ntmps60
  go_wp2_with (first
    | (at_builtin; refine wpList_append_own _ rfl _ _ 80 rfl (bc + 1) 83 i0 (.agg #[.int .u8 0, .string ⟨#[]⟩, .int .i64 0, .int .i64 0, .int .i64 0]) 5 48 Tryd.underlying80 hi0 hz0 hz1 hz2 rfl (by decide) _ n xs rfl HT2.out ⟨w.heap.size + 1, 0, none⟩ 1 1 [.int .u8 (tk : Int), .string tx, .int .i64 tn, .int .i64 tl, .int .i64 tc] rfl rfl HNew.out (by intro u hu; simp at hu; rcases hu with rfl | rfl | rfl | rfl | rfl <;> rfl) (by unfold maxLen; omega) (by omega) (by have := HB2.out.size; omega) ?_; intro v3 w3 hown3 hgrow3 _; have HT3 := jhid9 hown3; have HG3 := jhid9 hgrow3; have HV3 := jhid9 (HV2.out.kept HG3.out (fun e => by have := HOb.out bc e.symm; omega)); clear hown3 hgrow3)
    | (refine wpList_store_one rfl 80 _ _ rfl bc 0 80 _ v3 rfl rfl szToks (by rcases HT3.out.2 with ⟨e, _⟩ | ⟨g, cap, cur, e, _⟩ <;> rw [e] <;> rfl) (by rcases HT3.out.2 with ⟨e, _⟩ | ⟨g, cap, cur, e, _⟩ <;> rw [e] <;> rfl) HV3.out (by simp) ?_; intro w4 hv4 hg4))
  go_end0
  have hO3 : ∀ g, v3.ownBlock = some g → bc < g := fun g hg => by
    rcases HT3.out.2 with ⟨e, _⟩ | ⟨g', cap, cur, e, hB, _⟩
    · rw [e] at hg; simp [Value.ownBlock] at hg
    · rw [e] at hg; simp [Value.ownBlock] at hg; omega
  have hF3 : ∃ a3 d3, v3 = .slice a3 (n + 1) d3 := by
    rcases HT3.out.2 with ⟨e, h0⟩ | ⟨g, cap, cur, e, _⟩
    · omega
    · exact ⟨_, _, e⟩
  obtain ⟨a3, d3, e3⟩ := hF3
  have hT4 := World.ownsRow.kept HT3.out hg4.out (by
    cases hv : v3.ownBlock with
    | none => exact .inl rfl
    | some g => exact .inr (fun e => by have := hO3 g hv; simp at e; omega))
  have hB3 : Below bc _ w3 := jbelow HG3.out (by have := HB2.out.size; omega) (fun g hg => by have := HOb.out g hg; omega)
  have hB4 : Below bc w3 w4 := jbelow hg4.out (by have := hB3.size; have := HB2.out.size; omega) (fun g hg => by cases hg; exact Nat.le_refl _)
  have hVf : Vn w4 bc 80 #[v3] := hv4.out
  refine ⟨rfl, ⟨hlow, ?_, a3, d3, ?_, ?_⟩, ⟨?_, ?_⟩⟩
  · exact HBel.out.trans (((HB2.out.mono (by omega)).trans (hB3.mono hlow)).trans (hB4.mono hlow))
  · rw [HLen.out, ← e3]; exact hVf
  · show World.ownsRow _ _ _ _ _ _ _
    rw [HLen.out, ← e3, HYs.out, ← HXY.out]
    exact hT4
  · exact Nat.le_trans HB2.out.size (Nat.le_trans hB3.size hB4.size)
  · intro b hb hne ho
    have hob : (Value.slice a n d).ownBlock ≠ some b := fun e => by
      rcases HT0.out.2 with ⟨e1, _⟩ | ⟨g, cap, cur, e1, _, hg, _⟩
      · rw [e1] at e; simp [Value.ownBlock] at e
      · rw [e1] at e
        simp [Value.ownBlock] at e
        subst e
        exact ho _ _ hg
    rw [hg4.out.block b (by have := HB2.out.size; have := HG3.out.size; omega) (by simp; omega), HG3.out.block b (by have := HB2.out.size; omega) (fun e => hob e.symm), HB2.out.block b hb]
set_option maxRecDepth 20000 in
set_option maxHeartbeats 1000000 in
theorem tline (w : World) : Calls Tryd.prog 35 #[] w fun e w' => ∃ bc, e = .returned (.tuple #[.func (.func 60) #[] #[.pointer (some ⟨bc, 0, none⟩)], .func (.func 61) #[] #[.pointer (some ⟨bc, 0, none⟩)]]) ∧ Lp w w' bc [] ∧ Below w.heap.size w w' := by
  have hmf := mkf10
  have HV := jhid9 (Vn.new w 80 #[.slice none 0 0])
  go_enter Tryd.func35, Tryd.ntmps35
  go_wp2
  go_ret2
  exact ⟨w.heap.size, rfl, ⟨Nat.le_refl _, jlow _ _, none, 0, HV.out, Tvl.nil _ _⟩, jlow _ _⟩
/-- What a line's text is. -/
theorem join_of {L : List TV} {b : List UInt8} (h : TkF L b) : JoinA (gtv L) L.length (if b.length ≤ 65536 then ⟨b.toArray⟩ else ⟨#[]⟩) (if b.length ≤ 65536 then 0 else 4) := by
  have hm : ∀ i, i < L.length → mayB (gtv L i) = true := fun i hi => by rw [gtv_at hi]; exact (h.ok _ (List.getElem_mem hi)).1
  obtain ⟨m, hm1⟩ : ∃ m, L.length = m + 1 := by
    cases hL : L with
    | nil => exact absurd hL h.ne
    | cons t r => exact ⟨r.length, rfl⟩
  have hj := jn_all L
  have hl := jn_len (gtv L) m
  rw [← hm1] at hl
  rw [h.by_] at hj
  have hs : (jn (gtv L) L.length).size = b.length := by rw [← hj, Array.length_toList]; rfl
  by_cases hb : b.length ≤ 65536
  · rw [if_pos hb, if_pos hb]
    refine .inr (.inr ⟨rfl, hm, by omega, ?_⟩)
    rw [← hj]
  · rw [if_neg hb, if_neg hb]
    exact .inr (.inl ⟨rfl, rfl, hm, by omega⟩)
set_option maxRecDepth 20000 in
set_option maxHeartbeats 1000000 in
theorem ttext (w0 w : World) (bc : Nat) (L : List TV) (b : List UInt8) (HL : Hid (Lp w0 w bc L)) (HF : Hid (TkF L b)) (hn : L.length ≤ 1000000000) (h9 : Tab9 w) (hw : Wt9 w) :
    Calls Tryd.prog 61 #[.pointer (some ⟨bc, 0, none⟩)] w fun e w' => e = .returned (.tuple #[.string (if b.length ≤ 65536 then ⟨b.toArray⟩ else ⟨#[]⟩), .int .i64 ((if b.length ≤ 65536 then 0 else 4 : Nat) : Int)]) ∧ Below w.heap.size w w' := by
  have HJ := jhid9 (join_of HF.out)
  generalize (if b.length ≤ 65536 then (⟨b.toArray⟩ : ByteArray) else ⟨#[]⟩) = S at *
  generalize (if b.length ≤ 65536 then 0 else 4 : Nat) = E at *
  obtain ⟨_, _, a, d, hV, hT⟩ := HL.out
  have HTk := jhid9 (hT.toks (fun t ht => (HF.out.ok t ht).2))
  have c0 := hV.cell 0 _ rfl
  have HC := jhid9 (tjoin w a L.length d E (gtv L) S HTk.out (by omega) h9 hw HJ.out)
  clear hV hT HTk HJ h9 hw
  generalize L.length = n at *
  go_enter Tryd.func61, Tryd.ntmps61
  go_wp2_with (go_at_call 62; refine HC.out.mono ?_; rintro e w2 ⟨rfl, hb2⟩; have HB2 := jhid9 hb2; clear hb2)
  go_ret2
  exact ⟨rfl, HB2.out⟩
end Go.Proofs.YtdimkfcanegahaaDoor
