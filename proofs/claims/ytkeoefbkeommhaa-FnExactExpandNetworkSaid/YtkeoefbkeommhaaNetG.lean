/-
  A network that is fed: when the result is valid, and what becomes of its links. No statement of the seat is proved here.
-/
import Derived.Test.YtkeoefbkeommhaaNetF
import Derived.Test.YtkeoefbkeommhaaMea
namespace Go.Proofs.Ytkeoefbkeommhaa
open Go.RowKit

def feedL (n : Net) (k : Int) : Lnk := n.links.getD k.toNat lnk9
where lnk9 : Lnk := ⟨0, 0, 0, 0, []⟩
def feedB (n : Net) (k : Int) (ts : List Int) : Bool := okN n && decide (0 ≤ k ∧ k < (n.links.length : Int)) && isS ((feedL n k).tok ++ ts)
def feedN (n : Net) (k : Nat) (l : Lnk) (ts : List Int) : Net := ⟨n.progs, n.links.set k { l with tok := l.tok ++ ts }⟩
def feedNetworkR0 (n : Net) (k : Int) (ts : List Int) : Net := if feedB n k ts then feedN n k.toNat (feedL n k) ts else ⟨[], []⟩
theorem feed_no {n : Net} {k : Int} {ts : List Int} (h : feedB n k ts = false) : feedNetworkR0 n k ts = ⟨[], []⟩ := by unfold feedNetworkR0; rw [h]; rfl
theorem feed_yes {n : Net} {k : Int} {ts : List Int} (h : feedB n k ts = true) : feedNetworkR0 n k ts = feedN n k.toNat (feedL n k) ts := by unfold feedNetworkR0; rw [h]; rfl
theorem feedL_at {n : Net} {k : Nat} {l : Lnk} (h : n.links[k]? = some l) : feedL n (k : Int) = l := by
  unfold feedL; rw [Int.toNat_natCast, List.getD_eq_getElem?_getD, h]; rfl
theorem okN_feed {n : Net} {k : Nat} {l : Lnk} (h : okN n = true) (hx : n.links[k]? = some l) (ts : List Int) : okN (feedN n k l ts) = isS (l.tok ++ ts) := by
  have h0 := h
  unfold okN at h
  rw [Bool.and_eq_true, Bool.and_eq_true, Bool.and_eq_true] at h
  obtain ⟨⟨⟨h1, h2⟩, h3⟩, h4⟩ := h
  have e1 : (feedN n k l ts).links.map Lnk.src = n.links.map Lnk.src := by
    show (n.links.set k _).map Lnk.src = _
    rw [List.map_set]
    exact set_same (by rw [List.getElem?_map, hx]; rfl)
  have e2 : (feedN n k l ts).links.map Lnk.tgt = n.links.map Lnk.tgt := by
    show (n.links.set k _).map Lnk.tgt = _
    rw [List.map_set]
    exact set_same (by rw [List.getElem?_map, hx]; rfl)
  have e3 : headL (feedN n k l ts) = true := by
    unfold headL at h1 ⊢
    show (decide (n.progs.length ≤ 12 ∧ (n.links.set k _).length ≤ 30) && n.progs.all okP) = true
    rw [List.length_set]; exact h1
  have e4 : (feedN n k l ts).links.all linkL = isS (l.tok ++ ts) := by
    have hk := (List.getElem?_eq_some_iff.1 hx).1
    have hl := List.all_eq_true.1 h2 l (List.mem_of_getElem? hx)
    unfold linkL at hl
    rw [Bool.and_eq_true] at hl
    have hll : linkL { l with tok := l.tok ++ ts } = isS (l.tok ++ ts) := by
      show (isS (l.tok ++ ts) && !(decide (l.src = outE) && decide (l.tgt = outE))) = _
      rw [hl.2, Bool.and_true]
    show (n.links.set k _).all linkL = _
    cases ht : isS (l.tok ++ ts) with
    | true =>
      rw [List.all_eq_true]
      intro y hy
      rcases List.mem_or_eq_of_mem_set hy with hy | rfl
      · exact List.all_eq_true.1 h2 y hy
      · rw [hll, ht]
    | false =>
      rw [List.all_eq_false]
      exact ⟨_, List.mem_of_getElem? (List.getElem?_set_self hk), by rw [hll, ht]; simp⟩
  unfold okN
  rw [e1, e2, e3, e4, show (feedN n k l ts).progs = n.progs from rfl, h3, h4]
  simp
theorem sum_leN {α : Type} {f : α → Nat} {c : Nat} : ∀ xs : List α, (∀ x ∈ xs, f x ≤ c) → (xs.map f).sum ≤ c * xs.length
  | [], _ => by simp
  | x :: xs, h => by
    have h1 := sum_leN xs (fun y hy => h y (List.mem_cons_of_mem _ hy))
    have h2 := h x (List.mem_cons_self ..)
    rw [List.map_cons, List.sum_cons, List.length_cons, Nat.mul_add, Nat.mul_one]
    omega
theorem ok_szN {n : Net} (h : okN n = true) : szN n ≤ 50000 := by
  have hl := okN_len h
  have h1 := sum_leN (f := fun p : Prg => p.code.length) (c := 24) n.progs (fun p hp => by
    have := List.all_eq_true.1 hl.2.2 p hp
    have := (okP_parts this).1
    omega)
  have h2 := sum_leN (f := fun l : Lnk => l.tok.length) (c := 400) n.links (fun l hl => isS_len (tok_isS h hl))
  unfold szN
  omega
theorem feed_bd (n : Net) (k : Int) (ts : List Int) : szN (feedNetworkR0 n k ts) ≤ 50000 := by
  cases h : feedB n k ts with
  | false => rw [feed_no h]; simp [szN]
  | true =>
    rw [feed_yes h]
    unfold feedB at h
    rw [Bool.and_eq_true, Bool.and_eq_true] at h
    obtain ⟨⟨h1, h2⟩, h3⟩ := h
    have hk := of_decide_eq_true h2
    obtain ⟨l, hl⟩ : ∃ l, n.links[k.toNat]? = some l := ⟨_, List.getElem?_eq_getElem (by omega)⟩
    have e : feedL n k = l := by have := feedL_at hl; rwa [Int.toNat_of_nonneg hk.1] at this
    rw [e] at h3 ⊢
    exact ok_szN ((okN_feed h1 hl ts).trans h3)
/-- A row of a family is laid anew, in a block apart from the others'. -/
theorem Fam.put {lo lo' j : Nat} {w : World} {us : List Value} {xss : List (List Int)} {u' : Value} {ys : List Int} (h : Fam lo w us xss) (hj : j < us.length) (ho : Own lo' w u' ys) (hlo : lo' ≤ lo) (ha : ∀ (i : Nat) (v : Value), us[i]? = some v → i ≠ j → Apart v u') : Fam lo' w (us.set j u') (xss.set j ys) := by
  have hl := h.len
  refine ⟨by simp [hl], fun i v xs hv hx => ?_, fun i i' v v' hv hv' hii => ?_⟩
  · rw [List.getElem?_set] at hv hx
    by_cases e : j = i
    · rw [if_pos e, if_pos hj] at hv
      rw [if_pos e, if_pos (by omega)] at hx
      obtain rfl := Option.some.inj hv
      obtain rfl := Option.some.inj hx
      exact ho
    · rw [if_neg e] at hv hx
      exact (h.own i v xs hv hx).mono hlo
  · rw [List.getElem?_set] at hv hv'
    by_cases e : j = i
    · rw [if_pos e, if_pos hj] at hv
      obtain rfl := Option.some.inj hv
      rw [if_neg (by omega)] at hv'
      exact (ha i' v' hv' (by omega)).symm
    · rw [if_neg e] at hv
      by_cases e' : j = i'
      · rw [if_pos e', if_pos hj] at hv'
        obtain rfl := Option.some.inj hv'
        exact ha i v hv (by omega)
      · rw [if_neg e'] at hv'
        exact h.apart i i' v v' hv hv' hii
/-- The tokens of a link are laid anew. -/
theorem LnksR.put {lo hi lo' hi' k LB m c : Nat} {w : World} {u' : Value} {us : List Value} {ls : List Lnk} {l : Lnk} {ys : List Int} (hv : VL lo hi w (.slice (some ⟨LB, 0, none⟩) m c) us ls) (hF : Fam lo w us (ls.map Lnk.tok)) (h3 : ∀ x ∈ us, ∀ q, x.ownBlock = some q → q < hi')
    (hx : ls[k]? = some l) (ho : Own lo' w u' ys) (hb : ∀ q, u'.ownBlock = some q → q < hi') (hlo : lo' ≤ lo) (hhi : hi ≤ hi') (ha : ∀ (i : Nat) (v : Value), us[i]? = some v → i ≠ k → Apart v u') (ht : Typed w LB 68) :
    LnksR lo' hi' (w.setCell ⟨LB, k * 5 + 4, none⟩ u') (.slice (some ⟨LB, 0, none⟩) m c) (ls.set k { l with tok := ys }) := by
  have hk := (List.getElem?_eq_some_iff.1 hx).1
  have hl := hv.len
  have v4 := hv.set4 hx u'
  have v5 : VL lo hi (w.setCell ⟨LB, k * 5 + 4, none⟩ u') (.slice (some ⟨LB, 0, none⟩) m c) (us.set k u') (ls.set k { l with tok := ys }) := by
    have q := v4
    rw [← set_same hx] at q
    exact VL.row q (List.getElem?_set_self hk) ⟨rfl, rfl, rfl, rfl⟩
  refine ⟨us.set k u', v5.mono hlo hhi, ?_, fun x hx q e => ?_⟩
  · rw [List.map_set]
    exact (hF.put (by omega) ho hlo ha).setT ht (by decide) _
  · rcases List.mem_or_eq_of_mem_set hx with hx | rfl
    · exact h3 x hx q e
    · exact hb q e
end Go.Proofs.Ytkeoefbkeommhaa
