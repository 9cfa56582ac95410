/-
  How tokens are read as expressions (layer 11): the mathematics.
-/
import Derived.Test.YtnjcpmkfghcogaaGreatDoorQbbks00
import Derived.Test.YtnjcpmkfghcogaaGreatDoorQbbks03
import Derived.Test.YtnjcpmkfghcogaaGreatDoorQbbks15
set_option maxRecDepth 100000
set_option maxHeartbeats 16000000
namespace Go.Proofs.YtnjcpmkfghcogaaGreatDoor
def ksum (t : TV) : Nat := if t.tx = ⟨#[43]⟩ then 4 else if t.tx = ⟨#[45]⟩ then 5 else 0
def kterm (t : TV) : Nat := if t.tx = ⟨#[42]⟩ then 6 else if t.tx = ⟨#[47]⟩ then 7 else if t.tx = ⟨#[37]⟩ then 8 else 0
def yTwo (k : Nat) (t : TV) (a b : Xt) : Xt := mkX ⟨k, 0, ⟨#[]⟩, 2, t.ln, t.cl⟩ (fun i => if i = 0 then a else b)
def yNeg (t : TV) (a : Xt) : Xt := mkX ⟨3, 0, ⟨#[]⟩, 1, t.ln, t.cl⟩ (fun _ => a)
def yNum (t : TV) : Xt := mkX ⟨1, t.n, ⟨#[]⟩, 0, t.ln, t.cl⟩ (fun _ => l0x)
def yNam (t : TV) : Xt := mkX ⟨2, 0, t.tx, 0, t.ln, t.cl⟩ (fun _ => l0x)
abbrev Rd (α : Type) := Except (List TV) (α × List TV)
def thn {α β : Type} (r : Rd α) (f : α → List TV → Rd β) : Rd β :=
 match r with
 | .error e => .error e
 | .ok (x, s) => f x s
def ask {α : Type} (c : ByteArray) (x : α) (s : List TV) : Rd α :=
 match s with
 | [] => .error []
 | u :: s' => if u.tx = c then .ok (x, s') else .error s
theorem qbr {α : Type} (c : ByteArray) (x : α) (u : TV) (s : List TV) : ask c x (u :: s) = if u.tx = c then .ok (x, s) else .error (u :: s) := rfl
def px : Nat → Nat → Xt → List TV → Rd Xt
 | 0, _, _, L => .error L
 | n + 1, m, x, L =>
  if m = 0 then
   match L with
   | [] => .error []
   | t :: r =>
    if t.tx = ⟨#[45]⟩ then thn (px n 0 x r) (fun y s => .ok (yNeg t y, s))
    else if t.tx = ⟨#[40]⟩ then thn (px n 3 x r) (fun y s => ask ⟨#[41]⟩ y s)
    else if t.k = 3 then .ok (yNum t, r) else if t.k = 1 then .ok (yNam t, r) else .error (t :: r)
  else if m = 1 then thn (px n 0 x L) (fun y s => px n 2 y s)
  else if m = 2 then
   match L with
   | [] => .ok (x, [])
   | t :: r => if kterm t = 0 then .ok (x, t :: r) else thn (px n 0 x r) (fun y s => px n 2 (yTwo (kterm t) t x y) s)
  else if m = 3 then thn (px n 1 x L) (fun y s => px n 4 y s)
  else
   match L with
   | [] => .ok (x, [])
   | t :: r => if ksum t = 0 then .ok (x, t :: r) else thn (px n 1 x r) (fun y s => px n 4 (yTwo (ksum t) t x y) s)
theorem qix (n : Nat) (x : Xt) : px (n + 1) 0 x [] = .error [] := rfl
theorem qcw (n : Nat) (x : Xt) (t : TV) (r : List TV) : px (n + 1) 0 x (t :: r) = if t.tx = ⟨#[45]⟩ then thn (px n 0 x r) (fun y s => .ok (yNeg t y, s)) else if t.tx = ⟨#[40]⟩ then thn (px n 3 x r) (fun y s => ask ⟨#[41]⟩ y s) else if t.k = 3 then .ok (yNum t, r) else if t.k = 1 then .ok (yNam t, r) else .error (t :: r) := rfl
theorem px1 (n : Nat) (x : Xt) (L : List TV) : px (n + 1) 1 x L = thn (px n 0 x L) (fun y s => px n 2 y s) := rfl
theorem qiy (n : Nat) (x : Xt) : px (n + 1) 2 x [] = .ok (x, []) := rfl
theorem qck (n : Nat) (x : Xt) (t : TV) (r : List TV) : px (n + 1) 2 x (t :: r) = if kterm t = 0 then .ok (x, t :: r) else thn (px n 0 x r) (fun y s => px n 2 (yTwo (kterm t) t x y) s) := rfl
theorem px3 (n : Nat) (x : Xt) (L : List TV) : px (n + 1) 3 x L = thn (px n 1 x L) (fun y s => px n 4 y s) := rfl
theorem qiz (n : Nat) (x : Xt) : px (n + 1) 4 x [] = .ok (x, []) := rfl
theorem qcl (n : Nat) (x : Xt) (t : TV) (r : List TV) : px (n + 1) 4 x (t :: r) = if ksum t = 0 then .ok (x, t :: r) else thn (px n 1 x r) (fun y s => px n 4 (yTwo (ksum t) t x y) s) := rfl
theorem qa4 {α β : Type} (x : α) (s : List TV) (f : α → List TV → Rd β) : thn (.ok (x, s)) f = f x s := rfl
theorem qa7 {α β : Type} (e : List TV) (f : α → List TV → Rd β) : thn (.error e) f = .error e := rfl
def st0 (t : TV) : TV := ⟨t.k, t.tx, t.n, 0, 0⟩
theorem qdf {t u : TV} (h : st0 t = st0 u) : t.k = u.k ∧ t.tx = u.tx ∧ t.n = u.n := by
 unfold st0 at h
 simp only [TV.mk.injEq, and_true] at h
 exact h
end Go.Proofs.YtnjcpmkfghcogaaGreatDoor
