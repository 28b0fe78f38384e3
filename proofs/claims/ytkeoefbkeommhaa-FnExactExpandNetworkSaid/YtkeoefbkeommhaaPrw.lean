/-
  What the two functions WrapToken answer. No statement of the seat is proved here.
  Programs, actors and runs as plain data: what an instruction has to be, what an actor wants, what a step does, what a run leaves. No statement of the seat is proved here.
-/
import Derived.Test.YtkeoefbkeommhaaBas
namespace Go.Proofs.Ytkeoefbkeommhaa
open Go.RowKit

def wrapT (n : Int) : Int := if 999999 < n.tmod 1999999 then n.tmod 1999999 - 1999999 else if n.tmod 1999999 < -999999 then n.tmod 1999999 + 1999999 else n.tmod 1999999

theorem wrapT_hi {n : Int} (h : 999999 < n.tmod 1999999) : wrapT n = n.tmod 1999999 - 1999999 := by unfold wrapT; rw [if_pos h]
theorem wrapT_lo {n : Int} (h : n.tmod 1999999 < -999999) : wrapT n = n.tmod 1999999 + 1999999 := by unfold wrapT; rw [if_neg (by omega), if_pos h]
theorem wrapT_in {n : Int} (h : n.tmod 1999999 ≤ 999999) (k : -999999 ≤ n.tmod 1999999) : wrapT n = n.tmod 1999999 := by unfold wrapT; rw [if_neg (by omega), if_neg (by omega)]
theorem tmod_bd (n : Int) : -1999998 ≤ n.tmod 1999999 ∧ n.tmod 1999999 ≤ 1999998 := by
  have h := Int.tmod_lt_of_pos n (show (0 : Int) < 1999999 by omega)
  have k := Int.lt_tmod_of_pos n (show (0 : Int) < 1999999 by omega)
  omega
theorem wrapT_bd (n : Int) : -999999 ≤ wrapT n ∧ wrapT n ≤ 999999 := by
  have := tmod_bd n
  unfold wrapT
  split
  · omega
  · split <;> omega

structure Ins where
  op : Int
  a : Int
  b : Int
  c : Int
structure Prg where
  ins : Int
  outs : Int
  code : List Ins
structure Act where
  pc : Int
  regs : List Int

def regI (n : Int) : Bool := decide (0 ≤ n ∧ n ≤ 3)
def okI (ins outs n : Int) (x : Ins) : Bool :=
  decide ((x.op = 1 ∧ (0 ≤ x.a ∧ x.a ≤ 3) ∧ (0 ≤ x.b ∧ x.b < ins) ∧ x.c = 0) ∨
    (x.op = 2 ∧ (0 ≤ x.a ∧ x.a ≤ 3) ∧ (0 ≤ x.b ∧ x.b < outs) ∧ x.c = 0) ∨
    (x.op = 3 ∧ (0 ≤ x.a ∧ x.a ≤ 3) ∧ (-999999 ≤ x.b ∧ x.b ≤ 999999) ∧ x.c = 0) ∨
    ((4 ≤ x.op ∧ x.op ≤ 7) ∧ (0 ≤ x.a ∧ x.a ≤ 3) ∧ (0 ≤ x.b ∧ x.b ≤ 3) ∧ (0 ≤ x.c ∧ x.c ≤ 3)) ∨
    (x.op = 8 ∧ x.a = 0 ∧ (0 ≤ x.b ∧ x.b ≤ n) ∧ x.c = 0) ∨
    ((9 ≤ x.op ∧ x.op ≤ 10) ∧ (0 ≤ x.a ∧ x.a ≤ 3) ∧ (0 ≤ x.b ∧ x.b ≤ n) ∧ x.c = 0) ∨
    (x.op = 11 ∧ x.a = 0 ∧ x.b = 0 ∧ x.c = 0))
def okP (p : Prg) : Bool :=
  decide ((0 ≤ p.ins ∧ p.ins ≤ 3) ∧ (0 ≤ p.outs ∧ p.outs ≤ 3) ∧ 1 ≤ p.code.length ∧ p.code.length ≤ 24) && p.code.all (okI p.ins p.outs p.code.length)
def okA (p : Prg) (a : Act) : Bool := decide ((0 ≤ a.pc ∧ a.pc ≤ p.code.length) ∧ a.regs.length = 4) && isS a.regs

/-- What an instruction makes an actor want, and the port. -/
def wantI (x : Ins) : Int := if x.op = 11 then 0 else if x.op = 1 then 2 else if x.op = 2 then 3 else 1
def portI (x : Ins) : Int := if x.op = 1 then x.b else if x.op = 2 then x.b else 0
def wantC (code : List Ins) (k : Nat) : Int := match code[k]? with | none => 0 | some x => wantI x
def portC (code : List Ins) (k : Nat) : Int := match code[k]? with | none => 0 | some x => portI x

def restI (n c : Int) : Int := if c = 0 then 0 else n.emod c
def rg (r : List Int) (i : Int) : Int := r.getD i.toNat 0
/-- What is put into the register A, if something is. -/
def valI (x : Ins) (r : List Int) (t : Int) : Int :=
  if x.op = 1 then t else if x.op = 3 then x.b else if x.op = 4 then wrapT (rg r x.b + rg r x.c) else if x.op = 5 then wrapT (rg r x.b - rg r x.c)
  else if x.op = 6 then wrapT (rg r x.b * rg r x.c) else if x.op = 7 then restI (rg r x.b) (rg r x.c) else rg r x.a
def regsI (x : Ins) (r : List Int) (t : Int) : List Int := r.set x.a.toNat (valI x r t)
def pcI (x : Ins) (r : List Int) (pc : Int) : Int :=
  if x.op = 8 then x.b else if x.op = 9 then (if rg r x.a = 0 then x.b else pc + 1) else if x.op = 10 then (if rg r x.a < 0 then x.b else pc + 1) else pc + 1
def outI (x : Ins) (r : List Int) : Int := if x.op = 2 then rg r x.a else 0

theorem okP_parts {p : Prg} (h : okP p = true) : ((0 ≤ p.ins ∧ p.ins ≤ 3) ∧ (0 ≤ p.outs ∧ p.outs ≤ 3) ∧ 1 ≤ p.code.length ∧ p.code.length ≤ 24) ∧ ∀ x ∈ p.code, okI p.ins p.outs p.code.length x = true := by
  unfold okP at h
  rw [Bool.and_eq_true] at h
  exact ⟨of_decide_eq_true h.1, List.all_eq_true.1 h.2⟩
theorem okA_parts {p : Prg} {a : Act} (h : okA p a = true) : ((0 ≤ a.pc ∧ a.pc ≤ p.code.length) ∧ a.regs.length = 4) ∧ isS a.regs = true := by
  unfold okA at h
  rw [Bool.and_eq_true] at h
  exact ⟨of_decide_eq_true h.1, h.2⟩
theorem set_self (r : List Int) (k : Nat) : r.set k (r.getD k 0) = r := by
  apply List.ext_getElem?
  intro j
  rw [List.getElem?_set]
  by_cases e : k = j
  · subst e
    by_cases h : k < r.length
    · simp [h, List.getD]
    · simp [h]
  · simp [e]
/-- An instruction that puts nothing into a register leaves them. -/
theorem regs_same {x : Ins} (h : ¬ (x.op = 1 ∨ (3 ≤ x.op ∧ x.op ≤ 7))) (r : List Int) (t : Int) : regsI x r t = r := by
  unfold regsI valI
  rw [if_neg (by omega), if_neg (by omega), if_neg (by omega), if_neg (by omega), if_neg (by omega), if_neg (by omega)]
  exact set_self r _
theorem okI_a {i o n : Int} {x : Ins} (h : okI i o n x = true) : 0 ≤ x.a ∧ x.a ≤ 3 := by
  have := of_decide_eq_true h; omega
theorem okI_ops {i o n : Int} {x : Ins} (h : okI i o n x = true) : 1 ≤ x.op ∧ x.op ≤ 11 := by
  have := of_decide_eq_true h; omega
theorem restI_emod (n c : Int) (h : c ≠ 0) : restI n c = n.emod c := by simp [restI, h]

theorem isTok_of {n : Int} (h : -999999 ≤ n ∧ n ≤ 999999) : isTok n = true := decide_eq_true h
theorem rg_tok {r : List Int} (h : isS r = true) (i : Int) : isTok (rg r i) = true := by
  unfold rg
  by_cases hi : i.toNat < r.length
  · rw [List.getD_eq_getElem?_getD, List.getElem?_eq_getElem hi]; exact isS_all h _ (List.getElem_mem hi)
  · rw [List.getD_eq_getElem?_getD, List.getElem?_eq_none (by omega)]; decide
theorem restI_tok {n c : Int} (h : isTok c = true) : isTok (restI n c) = true := by
  have hc := isTok_bd h
  unfold restI
  split
  · decide
  · rename_i hne
    have h1 := Int.emod_nonneg n hne
    have h2 := Int.emod_lt n hne
    refine isTok_of ⟨?_, ?_⟩
    · show -999999 ≤ n % c; omega
    · show n % c ≤ 999999; omega
end Go.Proofs.Ytkeoefbkeommhaa
