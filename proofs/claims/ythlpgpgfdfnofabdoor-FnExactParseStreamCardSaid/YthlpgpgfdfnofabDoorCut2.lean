/-
  Which words the two readings agree on. No statement of the seat is proved here.
-/
import Derived.Test.YthlpgpgfdfnofabDoorCut
namespace Go.Proofs.YthlpgpgfdfnofabDoor
open Go.RowKit
open Go.Lib (decDigits itoa)

theorem pu_dig (l : List UInt8) : ∀ (acc k : Nat), acc < 10 ^ k → l.length + k ≤ 18 → l.all isDig = true →
    Go.Lib.parseUint10 acc l = .ok (l.foldl (fun n c => 10 * n + (c.toNat - 48)) acc) := by
  induction l with
  | nil => intros; rfl
  | cons c r ih =>
    intro acc k ha hk hd
    simp only [List.all_cons, Bool.and_eq_true] at hd
    have hc := isDig_bd hd.1
    simp only [List.length_cons] at hk
    have h1 : 10 ^ (k + 1) ≤ 10 ^ 18 := Nat.pow_le_pow_right (by omega) (by omega)
    have h2 : (10 : Nat) ^ 18 = 1000000000000000000 := by decide
    have h3 : (10 : Nat) ^ (k + 1) = 10 ^ k * 10 := Nat.pow_succ _ _
    have hi := ih (acc * 10 + (c.toNat - 48)) (k + 1) (by omega) (by omega) hd.2
    unfold Go.Lib.parseUint10
    rw [if_pos hc, if_neg (by omega), if_neg (by omega), hi, List.foldl_cons, Nat.mul_comm acc 10]
theorem pm_dec {n : Nat} (h : n < 1000000000) : Go.Lib.parseMag (decDigits n) = .ok n := by
  obtain ⟨h1, h2, h3, _⟩ := dec_dig n
  have hl := nDigits_small9 h
  rw [← Go.Lib.decDigits_length] at hl
  unfold Go.Lib.parseMag
  rw [if_neg h3, pu_dig _ 0 0 (by decide) (by omega) h1]
  exact congrArg _ h2
theorem atoi_itoa {n : Int} (h1 : -1000000000 < n) (h2 : n < 1000000000) : Go.Lib.atoiAll (itoa n) = .ok n := by
  unfold itoa
  split
  · have hp := pm_dec (n := n.natAbs) (by omega)
    show Go.Lib.atoiAll (45 :: _) = _
    unfold Go.Lib.atoiAll
    have e1 : (45 : UInt8).toNat = 45 := rfl
    simp only [e1, or_true, if_true, hp, not_true_eq_false, false_and, if_false, true_and]
    rw [if_neg (by omega)]
    congr 1
    omega
  · have hp := pm_dec (n := n.toNat) (by omega)
    obtain ⟨d1, d2, d3, d4⟩ := dec_dig n.toNat
    obtain ⟨c, r, hc⟩ := List.exists_cons_of_ne_nil d3
    rw [hc] at hp d1 ⊢
    have hcd : isDig c = true := by simp at d1; exact d1.1
    have hb := isDig_bd hcd
    unfold Go.Lib.atoiAll
    simp only
    rw [if_neg (by omega), hp]
    simp only
    rw [if_neg (by omega), if_neg (by omega), if_neg (by omega)]
    congr 1
    omega
theorem pdc_of_rd {l : List UInt8} {n : Int} (h : rd l = some n) : pdc l = some n := by
  obtain ⟨h1, h2, h3⟩ := rd_some h
  have := atoi_itoa h2 h3
  rw [h1] at this
  unfold pdc
  rw [this]
  exact if_pos h1
theorem rd_of_pdc {l : List UInt8} {n : Int} (h : pdc l = some n) (ht : isTok n = true) : rd l = some n := by
  have hb := isTok_bd ht
  unfold pdc at h
  split at h
  · split at h
    · rename_i m hm hl
      obtain rfl := Option.some.inj h
      have := rd_itoa (n := m) (by omega) (by omega)
      rw [hl] at this
      exact this
    · cases h
  · cases h

/-- A word that does not count: either reading turns the whole text down. -/
def badW (l : List UInt8) : Bool := match pdc l with | some n => !isTok n | none => true
theorem rd_bad {l : List UInt8} (h : badW l = true) : rd l = none ∨ ∃ n, rd l = some n ∧ isTok n = false := by
  cases hr : rd l with
  | none => exact .inl rfl
  | some n =>
    right
    refine ⟨n, rfl, ?_⟩
    unfold badW at h
    rw [pdc_of_rd hr] at h
    simpa using h
theorem rd_good {l : List UInt8} (h : badW l = false) : ∃ n, pdc l = some n ∧ isTok n = true ∧ rd l = some n := by
  unfold badW at h
  split at h
  · rename_i n hn
    have ht : isTok n = true := by simpa using h
    exact ⟨n, hn, ht, rd_of_pdc hn ht⟩
  · cases h

theorem mapM_none {ws : List (List UInt8)} {w : List UInt8} (h : rd w = none) (r : List (List UInt8)) : (ws ++ w :: r).mapM rd = none := by
  induction ws with
  | nil => simp [List.mapM_cons, h]
  | cons a ws ih =>
    simp only [List.cons_append, List.mapM_cons]
    cases rd a with
    | none => rfl
    | some n => simp [ih]
theorem mapM_snoc {ws : List (List UInt8)} {w : List UInt8} {xs : List Int} {n : Int} (h : ws.mapM rd = some xs) (hw : rd w = some n) : (ws ++ [w]).mapM rd = some (xs ++ [n]) := by
  rw [List.mapM_append]
  simp [h, List.mapM_cons, hw]
theorem mapM_pre {ws r : List (List UInt8)} {xs ys : List Int} (h : ws.mapM rd = some xs) (hy : (ws ++ r).mapM rd = some ys) : ∃ zs, ys = xs ++ zs := by
  rw [List.mapM_append, h] at hy
  simp only [Option.bind_eq_bind, Option.bind_some] at hy
  obtain ⟨zs, hz, h2⟩ := Option.bind_eq_some_iff.1 hy
  exact ⟨zs, by simpa using h2.symm⟩
theorem mapM_len {ws : List (List UInt8)} {xs : List Int} (h : ws.mapM rd = some xs) : xs.length = ws.length := by
  induction ws generalizing xs with
  | nil => simp at h; rw [h]; rfl
  | cons a ws ih =>
    rw [List.mapM_cons] at h
    obtain ⟨n, hn, h⟩ := Option.bind_eq_some_iff.1 h
    obtain ⟨ys, hy, h⟩ := Option.bind_eq_some_iff.1 h
    have : n :: ys = xs := by simpa using h
    rw [← this, List.length_cons, ih hy, List.length_cons]

/-- A bad word anywhere, or a word past the four hundredth: no stream. -/
theorem psR_bad {l : List UInt8} {ws r : List (List UInt8)} {w : List UInt8} {xs : List Int} (h46 : l ≠ [46]) (hw : words l = ws ++ w :: r) (hx : ws.mapM rd = some xs) (hb : badW w = true ∨ xs.length = 400) : psR l = none := by
  unfold psR
  rw [if_neg h46, hw]
  rcases hb with hb | hb
  · rcases rd_bad hb with h | ⟨n, hn, ht⟩
    · rw [mapM_none h]
    · split
      · rename_i ys hy
        have h2 := mapM_snoc hx hn
        rw [show ws ++ w :: r = (ws ++ [w]) ++ r by simp] at hy
        obtain ⟨zs, rfl⟩ := mapM_pre h2 hy
        rw [if_neg]
        intro hs
        have := isS_all hs n (by simp)
        rw [ht] at this
        cases this
      · rfl
  · split
    · rename_i ys hy
      have h4 := mapM_len hy
      have h3 := mapM_len hx
      rw [List.length_append, List.length_cons] at h4
      rw [if_neg]
      intro hs
      have := isS_len hs
      omega
    · rfl
end Go.Proofs.YthlpgpgfdfnofabDoor
