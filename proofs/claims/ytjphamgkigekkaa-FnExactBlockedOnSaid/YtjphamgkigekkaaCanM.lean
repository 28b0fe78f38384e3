/-
  What a process of a valid state wants, and whether it can step, as data. No statement of the seat is proved here.
-/
import Derived.Test.YtjphamgkigekkaaStM
import Derived.Test.YtjphamgkigekkaaIdx
import Derived.Test.YtjphamgkigekkaaSLink
namespace Go.Proofs.Ytjphamgkigekkaa
open Go.RowKit

def codeK (n : Net) (k : Nat) : List Ins := (n.progs.getD k prg0).code
def pcK (s : Stt) (k : Nat) : Nat := (s.acts.getD k act0).pc.toNat
def wantK (n : Net) (s : Stt) (k : Nat) : Int := wantC (codeK n k) (pcK s k)
def portK (n : Net) (s : Stt) (k : Nat) : Int := portC (codeK n k) (pcK s k)
def linkK (n : Net) (s : Stt) (k : Nat) : Int :=
  if wantK n s k = 2 then idxE Lnk.tgt n.links ((k : Int), portK n s k) else if wantK n s k = 3 then idxE Lnk.src n.links ((k : Int), portK n s k) else -1
def readyB (want q h steps : Int) : Bool := decide (steps < 20000) && (if want = 0 then false else if want = 2 then decide (0 < q) else if want = 3 then decide (h < 400) else true)
def rowAt (xss : List (List Int)) (i : Int) : List Int := xss.getD i.toNat []
def canB (n : Net) (s : Stt) (k : Nat) : Bool := readyB (wantK n s k) ((rowAt s.queues (linkK n s k)).length : Nat) ((rowAt s.sent (linkK n s k)).length : Nat) s.steps
/-- What holds of a valid state. -/
structure GoodSt (n : Net) (s : Stt) : Prop where
  ok : okN n = true
  st : 0 ≤ s.steps ∧ s.steps ≤ 20000
  la : s.acts.length = n.progs.length
  lq : s.queues.length = n.links.length
  lr : s.sent.length = n.links.length
  act : ∀ (k : Nat) (p : Prg) (a : Act), n.progs[k]? = some p → s.acts[k]? = some a → okA p a = true
  qs : ∀ xs ∈ s.queues, isS xs = true
  rs : ∀ xs ∈ s.sent, isS xs = true
theorem isState_good {n : Net} {s : Stt} (h : isStateR0 n s = true) : GoodSt n s := by
  unfold isStateR0 at h
  simp only [Bool.and_eq_true] at h
  obtain ⟨h1, h2, ⟨h3, h4⟩, h5, h6, _⟩ := h
  have h3 := of_decide_eq_true h3
  obtain ⟨a1, a2⟩ := areS_parts h5
  obtain ⟨b1, b2⟩ := areS_parts h6
  refine ⟨h1, of_decide_eq_true h2, h3.symm, by omega, by omega, fun k p a hp ha => ?_, a2, b2⟩
  have := upTo_at h4 (List.getElem?_eq_some_iff.1 hp).1
  unfold actP at this
  rwa [getD_at hp, getD_at ha] at this
theorem GoodSt.at {n : Net} {s : Stt} (h : GoodSt n s) {k : Nat} (hk : k < n.progs.length) : ∃ p a, n.progs[k]? = some p ∧ s.acts[k]? = some a ∧ okP p = true ∧ okA p a = true ∧ (0 ≤ a.pc ∧ a.pc ≤ p.code.length) ∧ codeK n k = p.code ∧ pcK s k = a.pc.toNat := by
  have hp : n.progs[k]? = some n.progs[k] := List.getElem?_eq_getElem hk
  have ha : s.acts[k]? = some (s.acts[k]'(by rw [h.la]; exact hk)) := List.getElem?_eq_getElem _
  have hoP := all_get (okN_len h.ok).2.2 hp
  have hoA := h.act k _ _ hp ha
  refine ⟨_, _, hp, ha, hoP, hoA, (okA_parts hoA).1.1, ?_, ?_⟩
  · unfold codeK; rw [getD_at hp]
  · unfold pcK; rw [getD_at ha]
theorem wantC_in (code : List Ins) (k : Nat) : wantC code k = 0 ∨ wantC code k = 1 ∨ wantC code k = 2 ∨ wantC code k = 3 := by
  unfold wantC
  cases code[k]? with
  | none => exact .inl rfl
  | some x =>
    show wantI x = 0 ∨ wantI x = 1 ∨ wantI x = 2 ∨ wantI x = 3
    unfold wantI
    split
    · exact .inl rfl
    · split
      · exact .inr (.inr (.inl rfl))
      · split
        · exact .inr (.inr (.inr rfl))
        · exact .inr (.inl rfl)
theorem want_ports {n : Net} {p : Prg} {k j : Nat} (hp : n.progs[k]? = some p) (ho : okP p = true) :
    (wantC p.code j = 2 → ((k : Int), portC p.code j) ∈ ports Prg.ins n.progs) ∧ (wantC p.code j = 3 → ((k : Int), portC p.code j) ∈ ports Prg.outs n.progs) := by
  have key : ∀ x, p.code[j]? = some x → okI p.ins p.outs p.code.length x = true := fun x hx => (okP_parts ho).2 x (List.mem_of_getElem? hx)
  unfold wantC portC
  cases hx : p.code[j]? with
  | none => exact ⟨fun h => absurd h (by show ¬ (0 : Int) = 2; decide), fun h => absurd h (by show ¬ (0 : Int) = 3; decide)⟩
  | some x =>
    have hb := of_decide_eq_true (key x hx)
    show (wantI x = 2 → ((k : Int), portI x) ∈ ports Prg.ins n.progs) ∧ (wantI x = 3 → ((k : Int), portI x) ∈ ports Prg.outs n.progs)
    refine ⟨fun h => ?_, fun h => ?_⟩
    · have h1 : x.op = 1 := by
        unfold wantI at h
        by_cases q : x.op = 1
        · exact q
        · rw [if_neg q] at h; split at h
          · cases h
          · split at h <;> cases h
      refine mem_ports.2 ⟨k, p, hp, rfl, ?_⟩
      unfold portI
      rw [if_pos h1]
      show 0 ≤ x.b ∧ x.b < p.ins
      omega
    · have h1 : x.op = 2 := by
        unfold wantI at h
        by_cases q : x.op = 2
        · exact q
        · rw [if_neg q] at h; split at h
          · cases h
          · split at h <;> cases h
      refine mem_ports.2 ⟨k, p, hp, rfl, ?_⟩
      unfold portI
      rw [if_neg (by omega), if_pos h1]
      show 0 ≤ x.b ∧ x.b < p.outs
      omega
theorem idx_lt {g : Lnk → End} {ls : List Lnk} {e : End} (h : (ls.map g).count e = 1) : ∃ j : Nat, idxE g ls e = (j : Int) ∧ j < ls.length ∧ atE g ls e = (j : Int) := by
  have hm : e ∈ ls.map g := List.count_pos_iff.1 (by omega)
  refine ⟨(ls.map g).idxOf e, by unfold idxE; rw [if_pos hm], ?_, atE_one h⟩
  have := List.idxOf_lt_length_of_mem hm
  rwa [List.length_map] at this
/-- The link that a process of a valid state wants to use. -/
theorem GoodSt.link {n : Net} {s : Stt} (h : GoodSt n s) {k : Nat} (hk : k < n.progs.length) (hw : wantK n s k = 2 ∨ wantK n s k = 3) :
    ∃ j : Nat, linkK n s k = (j : Int) ∧ j < n.links.length ∧ (wantK n s k = 2 → atE Lnk.tgt n.links ((k : Int), portK n s k) = (j : Int)) ∧ (wantK n s k = 3 → atE Lnk.src n.links ((k : Int), portK n s k) = (j : Int)) := by
  obtain ⟨p, a, hp, ha, hoP, _, _, e1, e2⟩ := h.at hk
  have W := want_ports (j := pcK s k) hp hoP
  obtain ⟨_, _, h3, h4⟩ := (okN_iff n).1 h.ok
  unfold linkK
  have ew : wantK n s k = wantC p.code (pcK s k) := by unfold wantK; rw [e1]
  have ep : portK n s k = portC p.code (pcK s k) := by unfold portK; rw [e1]
  rcases hw with hw | hw
  · rw [if_pos hw]
    obtain ⟨j, j1, j2, j3⟩ := idx_lt (h4 _ (W.1 (ew ▸ hw)))
    rw [← ep] at j1 j3
    exact ⟨j, j1, j2, fun _ => j3, fun q => (by rw [hw] at q; cases q)⟩
  · rw [if_neg (by rw [hw]; decide), if_pos hw]
    obtain ⟨j, j1, j2, j3⟩ := idx_lt (h3 _ (W.2 (ew ▸ hw)))
    rw [← ep] at j1 j3
    exact ⟨j, j1, j2, fun q => (by rw [hw] at q; cases q), fun _ => j3⟩
theorem link_none {n : Net} {s : Stt} {k : Nat} (h2 : wantK n s k ≠ 2) (h3 : wantK n s k ≠ 3) : linkK n s k = -1 := by unfold linkK; rw [if_neg h2, if_neg h3]
def canStepR0 (n : Net) (s : Stt) (k : Int) : Bool := isStateR0 n s && (hasP n k && canB n s k.toNat)
def isQuietR0 (n : Net) (s : Stt) : Bool := isStateR0 n s && upTo (fun k => !canB n s k) n.progs.length
def blockK (n : Net) (s : Stt) (k : Nat) : Int := if wantK n s k = 2 ∧ (rowAt s.queues (linkK n s k)).length = 0 then linkK n s k else -1
def blockedOnR0 (n : Net) (s : Stt) : List Int := if isStateR0 n s then (List.range n.progs.length).map (blockK n s) else []
theorem blockedOn_len (n : Net) (s : Stt) : (blockedOnR0 n s).length ≤ 12 := by
  unfold blockedOnR0
  split
  · rename_i h
    rw [List.length_map, List.length_range]
    exact (okN_len (isState_good h).ok).1
  · simp
end Go.Proofs.Ytjphamgkigekkaa
