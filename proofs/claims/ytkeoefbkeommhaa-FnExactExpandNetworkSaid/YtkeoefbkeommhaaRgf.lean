/-
  A run of a process as plain data. No statement of the seat is proved here.
  Words for slices of slices of ints, and what areStreams answers. No statement of the seat is proved here.
-/
import Derived.Test.YtkeoefbkeommhaaActs
import Derived.Test.YtkeoefbkeommhaaOpb
namespace Go.Proofs.Ytkeoefbkeommhaa
open Go.RowKit

structure St where
  pc : Nat
  regs : List Int
  outs : List (List Int)
  used : List Int

def row (xss : List (List Int)) (q : Int) : List Int := xss.getD q.toNat []
/-- Whether an actor at the place is stuck, with these inputs. -/
def stuckS (code : List Ins) (inp : List (List Int)) (st : St) : Bool :=
  (wantC code st.pc == 0) || ((wantC code st.pc == 2) && (rg st.used (portC code st.pc) == ((row inp (portC code st.pc)).length : Int))) ||
    ((wantC code st.pc == 3) && (((row st.outs (portC code st.pc)).length : Int) == 400))
def insAt (code : List Ins) (k : Nat) : Ins := code.getD k ⟨11, 0, 0, 0⟩
def tokS (x : Ins) (inp : List (List Int)) (st : St) : Int := if x.op = 1 then rg (row inp x.b) (rg st.used x.b) else 0
def stepS (x : Ins) (inp : List (List Int)) (st : St) : St :=
  { pc := (pcI x st.regs st.pc).toNat
    regs := regsI x st.regs (tokS x inp st)
    outs := if x.op = 2 then st.outs.set x.b.toNat (row st.outs x.b ++ [rg st.regs x.a]) else st.outs
    used := if x.op = 1 then st.used.set x.b.toNat (rg st.used x.b + 1) else st.used }
def runS (code : List Ins) (inp : List (List Int)) : Nat → St → St × Int
  | 0, st => (st, if stuckS code inp st = true then wantC code st.pc else 1)
  | n + 1, st => if stuckS code inp st = true then (st, wantC code st.pc) else runS code inp n (stepS (insAt code st.pc) inp st)

/-- What holds of a state of a valid program with these inputs. -/
structure GoodS (p : Prg) (inp : List (List Int)) (st : St) : Prop where
  pc : st.pc ≤ p.code.length
  len : st.regs.length = 4
  regs : isS st.regs = true
  outsN : (st.outs.length : Int) = p.outs
  usedN : (st.used.length : Int) = p.ins
  outs : ∀ (i : Nat) (xs : List Int), st.outs[i]? = some xs → isS xs = true
  used : ∀ (i : Nat) (u : Int), st.used[i]? = some u → 0 ≤ u ∧ u ≤ ((inp.getD i []).length : Int)

theorem pcI_bd {i o n : Int} {x : Ins} (h : okI i o n x = true) (r : List Int) (k : Nat) (hk : (k : Int) + 1 ≤ n) : 0 ≤ pcI x r k ∧ pcI x r k ≤ n := by
  have hx := of_decide_eq_true h
  unfold pcI
  split
  · omega
  · split
    · split <;> omega
    · split
      · split <;> omega
      · omega
theorem isS_set {xs : List Int} (h : isS xs = true) (k : Nat) {v : Int} (hv : isTok v = true) : isS (xs.set k v) = true :=
  isS_mk (by rw [List.length_set]; exact isS_len h) (fun x hx => by
    rcases List.mem_or_eq_of_mem_set hx with h1 | h1
    · exact isS_all h x h1
    · subst h1; exact hv)
theorem valI_tok {i o n : Int} {x : Ins} (h : okI i o n x = true) {r : List Int} (hr : isS r = true) {t : Int} (ht : isTok t = true) : isTok (valI x r t) = true := by
  have hx := of_decide_eq_true h
  unfold valI
  split
  · exact ht
  · split
    · exact isTok_of (by omega)
    · split
      · exact isTok_of (wrapT_bd _)
      · split
        · exact isTok_of (wrapT_bd _)
        · split
          · exact isTok_of (wrapT_bd _)
          · split
            · exact restI_tok (rg_tok hr _)
            · exact rg_tok hr _
theorem regsI_good {i o n : Int} {x : Ins} (h : okI i o n x = true) {r : List Int} (hl : r.length = 4) (hr : isS r = true) {t : Int} (ht : isTok t = true) : (regsI x r t).length = 4 ∧ isS (regsI x r t) = true :=
  ⟨by unfold regsI; rw [List.length_set]; exact hl, by unfold regsI; exact isS_set hr _ (valI_tok h hr ht)⟩
theorem row_tok {inp : List (List Int)} (h : ∀ xs ∈ inp, isS xs = true) (q i : Int) : isTok (rg (row inp q) i) = true := by
  apply rg_tok
  unfold row
  by_cases hq : q.toNat < inp.length
  · rw [List.getD_eq_getElem?_getD, List.getElem?_eq_getElem hq]; exact h _ (List.getElem_mem hq)
  · rw [List.getD_eq_getElem?_getD, List.getElem?_eq_none (by omega)]; decide
theorem tokS_tok {inp : List (List Int)} (h : ∀ xs ∈ inp, isS xs = true) (x : Ins) (st : St) : isTok (tokS x inp st) = true := by
  unfold tokS
  split
  · exact row_tok h _ _
  · decide
theorem wantC_at {code : List Ins} {k : Nat} {x : Ins} (h : code[k]? = some x) : wantC code k = wantI x ∧ portC code k = portI x := by
  unfold wantC portC; rw [h]; exact ⟨rfl, rfl⟩
theorem wantC_end {code : List Ins} {k : Nat} (h : code.length ≤ k) : wantC code k = 0 ∧ portC code k = 0 := by
  unfold wantC portC; rw [List.getElem?_eq_none h]; exact ⟨rfl, rfl⟩
/-- An actor that is not stuck stands at an instruction that is no halt. -/
theorem not_stuck {p : Prg} {inp : List (List Int)} {st : St} (hp : okP p = true) (hs : stuckS p.code inp st = false) :
    ∃ x, p.code[st.pc]? = some x ∧ insAt p.code st.pc = x ∧ x.op ≠ 11 ∧ okI p.ins p.outs p.code.length x = true ∧ (x.op = 1 → rg st.used x.b ≠ ((row inp x.b).length : Int)) ∧ (x.op = 2 → ((row st.outs x.b).length : Int) ≠ 400) := by
  have hlt : st.pc < p.code.length := by
    rcases Nat.lt_or_ge st.pc p.code.length with h | h
    · exact h
    · unfold stuckS at hs; rw [(wantC_end h).1] at hs; simp at hs
  have hx : p.code[st.pc]? = some p.code[st.pc] := List.getElem?_eq_getElem hlt
  have hok := (okP_parts hp).2 _ (List.getElem_mem hlt)
  refine ⟨_, hx, ?_, ?_, hok, ?_, ?_⟩
  · unfold insAt; rw [List.getD_eq_getElem?_getD, hx]; rfl
  all_goals
    unfold stuckS at hs
    rw [(wantC_at hx).1, (wantC_at hx).2] at hs
    generalize p.code[st.pc] = x at *
  · intro h11; simp [wantI, h11] at hs
  · intro h1; intro he; simp [wantI, portI, h1, he] at hs
  · intro h2; intro he; simp [wantI, portI, h2, he] at hs
theorem getD_set_self {α : Type} (l : List α) (k : Nat) (v d : α) (h : k < l.length) : (l.set k v).getD k d = v := by
  simp [List.getD_eq_getElem?_getD, h]
theorem step_good {p : Prg} {inp : List (List Int)} {st : St} {x : Ins} (hi : ∀ xs ∈ inp, isS xs = true) (hg : GoodS p inp st) (hx : p.code[st.pc]? = some x) (hok : okI p.ins p.outs p.code.length x = true)
    (h1 : x.op = 1 → rg st.used x.b ≠ ((row inp x.b).length : Int)) (h2 : x.op = 2 → ((row st.outs x.b).length : Int) ≠ 400) : GoodS p inp (stepS x inp st) := by
  have hlt := (List.getElem?_eq_some_iff.1 hx).1
  have hb := of_decide_eq_true hok
  have hpc := pcI_bd hok st.regs st.pc (by omega)
  have hr := regsI_good hok hg.len hg.regs (tokS_tok hi x st)
  refine ⟨?_, hr.1, hr.2, ?_, ?_, ?_, ?_⟩
  · show (pcI x st.regs st.pc).toNat ≤ p.code.length
    omega
  · show (((if x.op = 2 then _ else st.outs : List (List Int))).length : Int) = p.outs
    split
    · rw [List.length_set]; exact hg.outsN
    · exact hg.outsN
  · show (((if x.op = 1 then _ else st.used : List Int)).length : Int) = p.ins
    split
    · rw [List.length_set]; exact hg.usedN
    · exact hg.usedN
  · intro i xs hxs
    change (if x.op = 2 then st.outs.set x.b.toNat (row st.outs x.b ++ [rg st.regs x.a]) else st.outs)[i]? = some xs at hxs
    split at hxs
    · rename_i e
      rw [List.getElem?_set] at hxs
      by_cases hq : x.b.toNat = i
      · rw [if_pos hq] at hxs
        have hl : x.b.toNat < st.outs.length := by have := hg.outsN; omega
        rw [if_pos (by omega)] at hxs
        have hs := hg.outs x.b.toNat (row st.outs x.b) (by unfold row; rw [List.getD_eq_getElem?_getD, List.getElem?_eq_getElem hl]; rfl)
        obtain rfl := Option.some.inj hxs
        have hlen := isS_len hs
        have := h2 e
        refine isS_mk (by rw [List.length_append]; simp; omega) (fun y hy => ?_)
        rcases List.mem_append.1 hy with h | h
        · exact isS_all hs y h
        · rw [List.mem_singleton.1 h]; exact rg_tok hg.regs _
      · rw [if_neg hq] at hxs; exact hg.outs i xs hxs
    · exact hg.outs i xs hxs
  · intro i u hu
    change (if x.op = 1 then st.used.set x.b.toNat (rg st.used x.b + 1) else st.used)[i]? = some u at hu
    split at hu
    · rename_i e
      rw [List.getElem?_set] at hu
      by_cases hq : x.b.toNat = i
      · rw [if_pos hq] at hu
        have hl : x.b.toNat < st.used.length := by have := hg.usedN; omega
        rw [if_pos (by omega)] at hu
        have hs := hg.used x.b.toNat (rg st.used x.b) (by unfold rg; rw [List.getD_eq_getElem?_getD, List.getElem?_eq_getElem hl]; rfl)
        obtain rfl := Option.some.inj hu
        have := h1 e
        subst hq
        unfold row at this
        omega
      · rw [if_neg hq] at hu; exact hg.used i u hu
    · exact hg.used i u hu

theorem infoS : (Try.prog.info? 26).map (fun i => (i.zero, i.size, i.bytes)) = some (some (.slice none 0 0), 1, 24) := by kernel_rfl
theorem infoS_parts : ∃ i0, Try.prog.info? 26 = some i0 ∧ i0.zero = some (.slice none 0 0) ∧ i0.size = 1 ∧ i0.bytes = 24 := by
  have h := infoS
  cases e : Try.prog.info? 26 with
  | none => rw [e] at h; cases h
  | some i =>
    rw [e] at h
    simp only [Option.map_some, Option.some.injEq, Prod.mk.injEq] at h
    exact ⟨i, rfl, h.1, h.2.1, h.2.2⟩
/-- 'v' is a slice of slices of ints that reads as 'xss'. -/
def SlR (w : World) (v : Value) (xss : List (List Int)) : Prop :=
  ∃ (a : Option Addr) (cap : Nat), v = .slice a xss.length cap ∧ xss.length ≤ cap ∧ cap ≤ maxLen ∧ (a = none → cap = 0) ∧
    (xss = [] ∨ ∃ b off, a = some ⟨b, off, none⟩ ∧ b < w.heap.size ∧ ∀ i xs, xss[i]? = some xs → ∃ u, w.cell? ⟨b, off + i, none⟩ = some u ∧ Sl w u xs)
theorem SlR.below {w w' : World} {v : Value} {xss : List (List Int)} (h : SlR w v xss) (hb : Below w.heap.size w w') : SlR w' v xss := by
  obtain ⟨a, cap, hv, h1, h2, h3, h4⟩ := h
  refine ⟨a, cap, hv, h1, h2, h3, ?_⟩
  rcases h4 with h4 | ⟨b, off, ha, hlt, hc⟩
  · exact .inl h4
  · refine .inr ⟨b, off, ha, Nat.lt_of_lt_of_le hlt hb.size, fun i xs hi => ?_⟩
    obtain ⟨u, h5, h6⟩ := hc i xs hi
    exact ⟨u, (hb.cell hlt).trans h5, h6.below hb⟩

def areS (xss : List (List Int)) (n : Int) : Bool := decide ((xss.length : Int) = n) && xss.all isS
theorem areS_parts {xss : List (List Int)} {n : Int} (h : areS xss n = true) : (xss.length : Int) = n ∧ ∀ xs ∈ xss, isS xs = true := by
  unfold areS at h
  rw [Bool.and_eq_true] at h
  exact ⟨of_decide_eq_true h.1, List.all_eq_true.1 h.2⟩
theorem allS_step {xss : List (List Int)} {k : Nat} {x : List Int} (hx : xss[k]? = some x) (ha : (xss.take k).all isS = true) (hp : isS x = true) : (xss.take (k + 1)).all isS = true := by
  have hk := (List.getElem?_eq_some_iff.1 hx).1
  rw [List.take_succ_eq_append_getElem hk, (List.getElem?_eq_some_iff.1 hx).2]; simp at ha ⊢; exact ⟨ha, hp⟩
theorem allS_no {xss : List (List Int)} {k : Nat} {x : List Int} (hx : xss[k]? = some x) (hp : isS x = false) : xss.all isS = false := by
  rw [List.all_eq_false]
  exact ⟨x, List.mem_of_getElem? hx, by simp [hp]⟩

end Go.Proofs.Ytkeoefbkeommhaa
