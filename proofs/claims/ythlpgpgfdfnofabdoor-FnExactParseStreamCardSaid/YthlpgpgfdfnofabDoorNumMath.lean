/-
  Which texts the model reads as a number: just the decimal numerals of at most nine digits: of plain lists. No statement of the seat is proved here.
-/
import Derived.Test.YthlpgpgfdfnofabDoorNum
namespace Go.Proofs.YthlpgpgfdfnofabDoor
open Go.Lib (decDigits itoa)

def isDig (c : UInt8) : Bool := decide (48 ≤ c.toNat ∧ c.toNat ≤ 57)
def dval (l : List UInt8) : Nat := l.foldl (fun n c => 10 * n + (c.toNat - 48)) 0
def leads (l : List UInt8) : Bool := l.head? == some 48 && decide (1 < l.length)
def rdPos (l : List UInt8) : Option Nat := if 1 ≤ l.length ∧ l.length ≤ 9 ∧ leads l = false ∧ l.all isDig = true then some (dval l) else none

theorem dval_snoc (l : List UInt8) (c : UInt8) : dval (l ++ [c]) = 10 * dval l + (c.toNat - 48) := by simp [dval]
theorem isDig_bd {c : UInt8} (h : isDig c = true) : 48 ≤ c.toNat ∧ c.toNat ≤ 57 := of_decide_eq_true h
theorem dig_val {c : UInt8} (h : isDig c = true) (n : Nat) : dig (10 * n + (c.toNat - 48)) = c := by
  have := isDig_bd h
  unfold dig
  rw [show 48 + (10 * n + (c.toNat - 48)) % 10 = c.toNat by omega]
  simp
theorem dec_of (l : List UInt8) (h0 : l ≠ []) (hl : leads l = false) (hd : l.all isDig = true) : decDigits (dval l) = l ∧ (1 < l.length → 1 ≤ dval l) := by
  induction hn : l.length using Nat.strongRecOn generalizing l with
  | _ n ih =>
    rcases List.eq_nil_or_concat l with h | ⟨l', c, h⟩
    · exact absurd h h0
    · rw [List.concat_eq_append] at h
      subst h
      rw [List.all_append, Bool.and_eq_true] at hd
      have hc : isDig c = true := by simpa using hd.2
      have hcb := isDig_bd hc
      rw [dval_snoc]
      by_cases h1 : l' = []
      · subst h1
        refine ⟨?_, fun h => by simp at hn h; omega⟩
        have e := dig_val hc 0
        simp only [dval, List.foldl_nil, Nat.mul_zero, Nat.zero_add] at e ⊢
        rw [decDigits, dif_pos (by omega)]
        unfold dig at e
        rw [Nat.mod_eq_of_lt (by omega)] at e
        rw [e]; rfl
      · have hpos := List.length_pos_iff.2 h1
        have hl' : leads l' = false := by
          unfold leads at hl ⊢
          obtain ⟨a, r, rfl⟩ := List.exists_cons_of_ne_nil h1
          simp at hl ⊢
          intro e; exact absurd e hl
        have hi := ih l'.length (by rw [← hn]; simp) l' h1 hl' hd.1 rfl
        have h1v : 1 ≤ dval l' := by
          by_cases h2 : 1 < l'.length
          · exact hi.2 h2
          · obtain ⟨a, r, rfl⟩ := List.exists_cons_of_ne_nil h1
            have hr : r = [] := by simpa using h2
            subst hr
            have hab := isDig_bd (show isDig a = true by simpa using hd.1)
            have ha : a ≠ 48 := by
              unfold leads at hl
              simpa using hl
            have : a.toNat ≠ 48 := fun e => ha (UInt8.toNat_inj.1 (by rw [e]; rfl))
            simp [dval]
            omega
        refine ⟨?_, fun _ => by omega⟩
        rw [decDigits, dif_neg (by omega), show (10 * dval l' + (c.toNat - 48)) / 10 = dval l' by omega, hi.1]
        congr 1
        have := dig_val hc (dval l')
        unfold dig at this
        rw [this]
theorem rdPos_some {l : List UInt8} {n : Nat} (h : rdPos l = some n) : decDigits n = l := by
  unfold rdPos at h
  split at h
  · rename_i hh
    obtain rfl := Option.some.inj h
    exact (dec_of l (fun e => by rw [e] at hh; simp at hh) hh.2.2.1 hh.2.2.2).1
  · cases h
theorem dec_dig (n : Nat) : (decDigits n).all isDig = true ∧ dval (decDigits n) = n ∧ decDigits n ≠ [] ∧ (n ≠ 0 → (decDigits n).head? ≠ some 48) := by
  induction n using Nat.strongRecOn with
  | _ n ih =>
    by_cases h : n < 10
    · rw [decDigits, dif_pos h]
      have e : (UInt8.ofNat (48 + n)).toNat = 48 + n := by simp; omega
      refine ⟨by simp [isDig]; omega, by simp [dval]; omega, by simp, fun h0 he => ?_⟩
      simp only [List.head?_cons, Option.some.injEq] at he
      have := congrArg UInt8.toNat he
      rw [e] at this
      simp at this
      omega
    · rw [decDigits, dif_neg h]
      obtain ⟨i1, i2, i3, i4⟩ := ih (n / 10) (by omega)
      have e : (UInt8.ofNat (48 + n % 10)).toNat = 48 + n % 10 := by simp; omega
      refine ⟨by rw [List.all_append, i1]; simp [isDig]; omega, by rw [dval_snoc, i2, e]; omega, by simp, fun _ he => ?_⟩
      obtain ⟨a, r, hr⟩ := List.exists_cons_of_ne_nil i3
      rw [hr] at he i4
      exact i4 (by omega) (by simpa using he)
theorem nDigits_small9 {n : Nat} (h : n < 1000000000) : Go.Lib.nDigits n ≤ 9 := by
  rcases Nat.lt_or_ge 9 (Go.Lib.nDigits n) with hh | hh
  · exfalso
    have key : ∀ (k m : Nat), k + 1 ≤ Go.Lib.nDigits m → 10 ^ k ≤ m ∨ k = 0 := by
      intro k
      induction k with
      | zero => intro m _; exact .inr rfl
      | succ k ih =>
        intro m hm
        by_cases h10 : m < 10
        · rw [Go.Lib.nDigits_small h10] at hm; omega
        · rw [Go.Lib.nDigits_big h10] at hm
          rcases ih (m / 10) (by omega) with e | e
          · left; rw [Nat.pow_succ]; omega
          · left; subst e; simp; omega
    rcases key 9 n (by omega) with e | e
    · have : (10 : Nat) ^ 9 = 1000000000 := by decide
      omega
    · omega
  · exact hh
theorem rdPos_dec {n : Nat} (h : n < 1000000000) : rdPos (decDigits n) = some n := by
  obtain ⟨h1, h2, h3, h4⟩ := dec_dig n
  have hl := nDigits_small9 h
  rw [← Go.Lib.decDigits_length] at hl
  have hz : leads (decDigits n) = false := by
    unfold leads
    by_cases h0 : n = 0
    · subst h0; rw [decDigits, dif_pos (by omega)]; rfl
    · have := h4 h0
      simp [this]
  unfold rdPos
  rw [if_pos ⟨by have := List.length_pos_iff.2 h3; omega, hl, hz, h1⟩, h2]

/-- What the model reads a word as. -/
def rd : List UInt8 → Option Int
  | 45 :: c :: r => if c ≠ 45 then (rdPos (c :: r)).bind fun n => if n ≠ 0 then some (-(n : Int)) else none else none
  | l => (rdPos l).map Int.ofNat
theorem rdPos_no45 (r : List UInt8) : rdPos (45 :: r) = none := by
  unfold rdPos
  rw [if_neg]
  rintro ⟨_, _, _, h⟩
  simp [isDig] at h
theorem rd_some {l : List UInt8} {n : Int} (h : rd l = some n) : itoa n = l ∧ -1000000000 < n ∧ n < 1000000000 := by
  have big : ∀ {l : List UInt8} {m : Nat}, rdPos l = some m → m < 1000000000 := by
    intro l m hm
    have e := rdPos_some hm
    unfold rdPos at hm
    split at hm
    · rename_i hh
      have hlen : Go.Lib.nDigits m ≤ 9 := by rw [← Go.Lib.decDigits_length, e]; exact hh.2.1
      have := Go.Lib.lt_pow_nDigits m
      have : (10 : Nat) ^ Go.Lib.nDigits m ≤ 10 ^ 9 := Nat.pow_le_pow_right (by omega) hlen
      have : (10 : Nat) ^ 9 = 1000000000 := by decide
      omega
    · cases hm
  have plain : ∀ {l : List UInt8}, (rdPos l).map Int.ofNat = some n → itoa n = l ∧ -1000000000 < n ∧ n < 1000000000 := by
    intro l hl
    obtain ⟨m, hm, rfl⟩ := Option.map_eq_some_iff.1 hl
    have := big hm
    refine ⟨?_, by simp only [Int.ofNat_eq_natCast]; omega, by simp only [Int.ofNat_eq_natCast]; omega⟩
    unfold itoa
    rw [if_neg (by simp only [Int.ofNat_eq_natCast]; omega)]
    exact rdPos_some hm
  unfold rd at h
  split at h
  · rename_i c r
    split at h
    · obtain ⟨m, hm, h2⟩ := Option.bind_eq_some_iff.1 h
      split at h2
      · obtain rfl := Option.some.inj h2
        have := big hm
        refine ⟨?_, by omega, by omega⟩
        unfold itoa
        rw [if_pos (by omega), show (-(m : Int)).natAbs = m by omega, rdPos_some hm]
      · cases h2
    · cases h
  · exact plain h
theorem rd_itoa {n : Int} (h1 : -1000000000 < n) (h2 : n < 1000000000) : rd (itoa n) = some n := by
  unfold itoa
  split
  · obtain ⟨d1, d2, d3, d4⟩ := dec_dig n.natAbs
    have hr := rdPos_dec (n := n.natAbs) (by omega)
    obtain ⟨c, r, hc⟩ := List.exists_cons_of_ne_nil d3
    rw [hc] at hr d1 ⊢
    have hcd : isDig c = true := by simp at d1; exact d1.1
    have hc45 : c ≠ 45 := by
      rintro rfl
      simp [isDig] at hcd
    have e : rd (45 :: c :: r) = (rdPos (c :: r)).bind fun n => if n ≠ 0 then some (-(n : Int)) else none := by
      conv => lhs; unfold rd
      exact if_pos hc45
    rw [e, hr]
    simp only [Option.bind_some]
    rw [if_pos (by omega)]
    congr 1
    omega
  · obtain ⟨d1, d2, d3, d4⟩ := dec_dig n.toNat
    have hr := rdPos_dec (n := n.toNat) (by omega)
    obtain ⟨c, r, hc⟩ := List.exists_cons_of_ne_nil d3
    rw [hc] at hr d1 ⊢
    have hcd : isDig c = true := by simp at d1; exact d1.1
    have hc45 : c ≠ 45 := by
      rintro rfl
      simp [isDig] at hcd
    unfold rd
    split
    · rename_i heq
      exact absurd (List.cons.inj heq).1 hc45
    · rw [hr]
      simp only [Option.map_some, Option.some.injEq, Int.ofNat_eq_natCast]
      omega

end Go.Proofs.YthlpgpgfdfnofabDoor
