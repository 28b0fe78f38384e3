/-
  What makes a state valid, as data; the ends of streams; what a link may carry; programs and actors side by side. No statement of the seat is proved here.
-/
import Derived.Test.YtkeoefbkeommhaaStC
import Derived.Test.YtkeoefbkeommhaaPma
import Derived.Test.YtkeoefbkeommhaaSNet
import Derived.Test.YtkeoefbkeommhaaMlt
namespace Go.Proofs.Ytkeoefbkeommhaa
open Go.RowKit

def endB (q h : List Int) : Bool := decide (q.length ≤ h.length ∧ q = h.drop (h.length - q.length))
def trafB (l : Lnk) (q h : List Int) : Bool := prefB l.tok h && (endB q h && (if l.src = outE then decide (h.length = l.tok.length) else (!(decide (l.tgt = outE)) || decide (q.length = h.length))))
def prg0 : Prg := ⟨0, 0, []⟩
def act0 : Act := ⟨0, []⟩
def lnk0 : Lnk := ⟨0, 0, 0, 0, []⟩
def upTo (p : Nat → Bool) (k : Nat) : Bool := (List.range k).all p
theorem upTo_step {p : Nat → Bool} {k : Nat} (ha : upTo p k = true) (hp : p k = true) : upTo p (k + 1) = true := by
  unfold upTo at *
  rw [List.all_eq_true] at *
  intro i hi
  rcases Nat.lt_or_ge i k with q | q
  · exact ha i (List.mem_range.2 q)
  · obtain rfl : i = k := by have := List.mem_range.1 hi; omega
    exact hp
theorem upTo_no {p : Nat → Bool} {k m : Nat} (hk : k < m) (hp : p k = false) : upTo p m = false := by
  unfold upTo
  rw [List.all_eq_false]
  exact ⟨k, List.mem_range.2 hk, by rw [hp]; decide⟩
theorem upTo_at {p : Nat → Bool} {k m : Nat} (h : upTo p m = true) (hk : k < m) : p k = true := by
  unfold upTo at h
  exact List.all_eq_true.1 h k (List.mem_range.2 hk)
theorem getD_at {α : Type} {l : List α} {k : Nat} {x d : α} (h : l[k]? = some x) : l.getD k d = x := by rw [List.getD_eq_getElem?_getD, h]; rfl
def actP (ps : List Prg) (acs : List Act) (i : Nat) : Bool := okA (ps.getD i prg0) (acs.getD i act0)
def traP (n : Net) (s : Stt) (i : Nat) : Bool := trafB (n.links.getD i lnk0) (s.queues.getD i []) (s.sent.getD i [])
def isStateR0 (n : Net) (s : Stt) : Bool :=
  okN n && (decide (0 ≤ s.steps ∧ s.steps ≤ 20000) && ((decide (n.progs.length = s.acts.length) && upTo (actP n.progs s.acts) n.progs.length) && (areS s.queues n.links.length && (areS s.sent n.links.length && upTo (traP n s) n.links.length))))

theorem endB_long {xs ys : List Int} (h : ¬ xs.length ≤ ys.length) : endB xs ys = false := by unfold endB; rw [decide_eq_false]; exact fun e => h e.1
theorem endB_short {xs ys : List Int} (h : xs.length ≤ ys.length) : endB xs ys = decide (xs = ys.drop (ys.length - xs.length)) := by
  unfold endB
  by_cases e : xs = ys.drop (ys.length - xs.length)
  · rw [decide_eq_true e, decide_eq_true ⟨h, e⟩]
  · rw [decide_eq_false e, decide_eq_false (fun q => e q.2)]

theorem begB_endB {xs ys : List Int} {n : Nat} (h : xs.length ≤ ys.length) (hn : n = ys.length - xs.length) : begB xs (ys.drop n) = decide (xs = ys.drop n) := by
  unfold begB
  have hl : (ys.drop n).length = xs.length := by rw [List.length_drop]; omega
  by_cases e : xs = ys.drop n
  · rw [decide_eq_true e, decide_eq_true]
    exact ⟨by omega, by rw [List.take_of_length_le (by omega)]; exact e⟩
  · rw [decide_eq_false e, decide_eq_false]
    rintro ⟨_, q⟩
    rw [List.take_of_length_le (by omega)] at q
    exact e q
end Go.Proofs.Ytkeoefbkeommhaa
