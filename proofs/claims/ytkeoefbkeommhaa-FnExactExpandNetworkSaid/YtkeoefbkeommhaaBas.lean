/-
  Words for slices of ints: what a slice value reads as, and what the call itself owns. No statement of the seat is proved here.
  What the two functions IsStream answer. No statement of the seat is proved here.
  What the comparisons of two slices of ints answer: the law's own two, slices.Equal, and the check for a prefix. No statement of the seat is proved here.
  More words for slices of ints of the call's own: their blocks, sources of a copy, an append of one token. No statement of the seat is proved here.
  What the law's own functions on slices of ints do: a copy, a comparison, marks written and marks read. No statement of the seat is proved here.
-/
import Derived.Test.YtkeoefbkeommhaaProg
import Derived.WalkKit
import Derived.WalkSpells
import Derived.WalkLawsBesides
import Derived.Lib.Hide
import Derived.KernelRfl
import Derived.Deep.QuietTactic
import Derived.BigQuiet
import Derived.Laws.CopyOwn
import Derived.Laws.AppendOwnNone
import Derived.Maps.AppendAt
namespace Go.Proofs.Ytkeoefbkeommhaa
open Go.RowKit

def vals (xs : List Int) : List Value := xs.map (Value.int .i64)

/-- 'v' is a slice of ints that reads as 'xs' in 'w'. -/
def Sl (w : World) (v : Value) (xs : List Int) : Prop :=
  ∃ (a : Option Addr) (cap : Nat), v = .slice a xs.length cap ∧ xs.length ≤ cap ∧ cap ≤ maxLen ∧ (a = none → cap = 0) ∧
    (xs = [] ∨ ∃ b off, a = some ⟨b, off, none⟩ ∧ b < w.heap.size ∧ ∀ i, i < xs.length → w.cell? ⟨b, off + i, none⟩ = some (.int .i64 (xs.getD i 0)))

/-- 'v' is a slice of ints of the call's own, in a block from 'lo' on, and reads as 'xs'. -/
def Own (lo : Nat) (w : World) (v : Value) (xs : List Int) : Prop := w.ownsRow lo 3 1 v xs.length (vals xs)

/-- Two slice values lie in two blocks. -/
def Apart (v u : Value) : Prop := v.ownBlock = none ∨ v.ownBlock ≠ u.ownBlock

theorem Sl.below {w w' : World} {v : Value} {xs : List Int} (h : Sl w v xs) (hb : Below w.heap.size w w') : Sl w' v xs := by
  obtain ⟨a, cap, hv, h1, h2, h3, h4⟩ := h
  refine ⟨a, cap, hv, h1, h2, h3, ?_⟩
  rcases h4 with h4 | ⟨b, off, ha, hlt, hc⟩
  · exact .inl h4
  · exact .inr ⟨b, off, ha, Nat.lt_of_lt_of_le hlt hb.size, fun i hi => (hb.cell (p := ⟨b, off + i, none⟩) hlt).trans (hc i hi)⟩

theorem Own.lt {lo : Nat} {w : World} {v : Value} {xs : List Int} (h : Own lo w v xs) : ∀ k, v.ownBlock = some k → lo ≤ k ∧ k < w.heap.size :=
  World.ownsRow.lt h

theorem Own.below {lo : Nat} {w w' : World} {v : Value} {xs : List Int} (h : Own lo w v xs) (hb : Below w.heap.size w w') : Own lo w' v xs := by
  have hl := Own.lt h
  refine ⟨h.1, ?_⟩
  rcases h.2 with hn | ⟨g, cap, cur, rfl, hbb, hg, rest⟩
  · exact .inl hn
  · refine .inr ⟨g, cap, cur, rfl, hbb, ?_, rest⟩
    rw [hb.block g (hl g rfl).2]
    exact hg

theorem Own.kept {lo : Nat} {w w' : World} {v u : Value} {xs : List Int} (h : Own lo w v xs) (hg : w.grownBy w' u.ownBlock) (ha : Apart v u) : Own lo w' v xs :=
  World.ownsRow.kept h hg ha

theorem Own.mono {lo lo' : Nat} {w : World} {v : Value} {xs : List Int} (h : Own lo w v xs) (hl : lo' ≤ lo) : Own lo' w v xs := by
  refine ⟨h.1, ?_⟩
  rcases h.2 with hn | ⟨g, cap, cur, rfl, hbb, hg, rest⟩
  · exact .inl hn
  · exact .inr ⟨g, cap, cur, rfl, by omega, hg, rest⟩

theorem Own.sl {lo : Nat} {w : World} {v : Value} {xs : List Int} (h : Own lo w v xs) : Sl w v xs := by
  have hl := Own.lt h
  have hc := fun g hg => World.ownsRow.cells (g := g) h hg
  rcases h.2 with ⟨rfl, hn⟩ | ⟨g, cap, cur, rfl, hbb, hg, h1, h2, _⟩
  · have hx : xs = [] := List.eq_nil_of_length_eq_zero hn
    subst hx
    exact ⟨none, 0, rfl, Nat.le_refl _, by simp, fun _ => rfl, .inl rfl⟩
  · refine ⟨_, cap, rfl, h1, h2, (fun h => by cases h), .inr ⟨g, 0, rfl, (hl g rfl).2, fun i hi => ?_⟩⟩
    have := hc g rfl i (.int .i64 (xs.getD i 0)) (by simp [vals, List.getD, hi])
    rwa [Addr.add_lit] at this

theorem Apart.of_lt {lo lo' : Nat} {w w' : World} {v u : Value} {xs ys : List Int} (h : Own lo w v xs) (k : Own lo' w' u ys) (hh : w.heap.size ≤ lo') : Apart v u := by
  cases hv : v.ownBlock with
  | none => exact .inl hv
  | some g =>
    refine .inr fun e => ?_
    have h1 := Own.lt h g hv
    have h2 := Own.lt k g (by rw [← e, hv])
    omega

theorem Apart.symm {v u : Value} (h : Apart v u) : Apart u v := by
  unfold Apart at *
  cases hu : u.ownBlock with
  | none => exact .inl rfl
  | some g =>
    refine .inr fun e => ?_
    rcases h with h | h
    · rw [h] at e; cases e
    · exact h (by rw [hu]; exact e.symm)

theorem Below.toDraw {B : Nat} {w w' : World} (h : Below B w w') (n : Nat) : Below B w (w'.drewN n) := ⟨h.os, h.tape, h.output, h.size, h.block⟩

theorem info : (Try.prog.info? 3).map (fun i => (i.zero, i.size, i.bytes)) = some (some (.int .i64 0), 1, 8) := by kernel_rfl


/-- From the frame's own word for a slice of ints that came in. -/
theorem sl_of {w : World} {a : Option Addr} {len cap : Nat} {zs : List Int}
    (h : (a = none ∧ len = 0 ∧ cap = 0 ∧ zs = []) ∨ ∃ x, a = some x ∧ len ≤ cap ∧ cap ≤ maxLen ∧ zs.length = cap ∧ (∀ i, i < zs.length → w.cell? (x.add i) = some (.int .i64 (zs.getD i 0))) ∧ ∀ n ∈ zs, (Lit.int .i64 n).wf = true) :
    Sl w (.slice a len cap) (zs.take len) := by
  rcases h with ⟨rfl, rfl, rfl, rfl⟩ | ⟨x, rfl, hl, hm, hz, hc, _⟩
  · exact ⟨none, 0, rfl, Nat.le_refl _, by simp, fun _ => rfl, .inl rfl⟩
  · have hlen : (zs.take len).length = len := by simp; omega
    refine ⟨some x, cap, by rw [hlen], by omega, hm, (fun h => by cases h), ?_⟩
    by_cases h0 : len = 0
    · left; subst h0; simp
    · right
      obtain ⟨b, off, spot⟩ := x
      have h1 := hc 0 (by omega)
      have hadd : ∀ i, (⟨b, off, none⟩ : Addr).add i = ⟨b, off + i, none⟩ := fun i => Addr.add_lit _ _ _
      have hspot : spot = none := by simpa [Addr.add] using World.cell?_spot h1
      subst hspot
      refine ⟨b, off, rfl, ?_, fun i hi => ?_⟩
      · have := World.block_lt_of_cell? w _ h1
        rw [hadd] at this
        exact this
      · have h2 := hc i (by omega)
        rw [hadd] at h2
        rw [h2]
        simp only [List.getD_eq_getElem?_getD, List.getElem?_take]
        rw [if_pos (by omega)]

def isTok (n : Int) : Bool := decide (-999999 ≤ n ∧ n ≤ 999999)
def isS (xs : List Int) : Bool := decide (xs.length ≤ 400) && xs.all isTok

theorem isTok_yes {n : Int} (h : -999999 ≤ n) (k : n ≤ 999999) : isTok n = true := decide_eq_true ⟨h, k⟩
theorem isTok_lo {n : Int} (h : n < -999999) : isTok n = false := decide_eq_false (by omega)
theorem isTok_hi {n : Int} (h : 999999 < n) : isTok n = false := decide_eq_false (by omega)
theorem isTok_bd {n : Int} (h : isTok n = true) : -999999 ≤ n ∧ n ≤ 999999 := of_decide_eq_true h
theorem isS_len {xs : List Int} (h : isS xs = true) : xs.length ≤ 400 := by
  unfold isS at h; simp at h; exact h.1
theorem isS_all {xs : List Int} (h : isS xs = true) : ∀ x ∈ xs, isTok x = true := by
  unfold isS at h; simp at h; exact h.2
theorem isS_long {xs : List Int} (h : ¬ xs.length ≤ 400) : isS xs = false := by
  unfold isS; simp [h]
theorem isS_short {xs : List Int} (h : xs.length ≤ 400) : isS xs = xs.all isTok := by
  unfold isS; simp [h]
theorem isS_mk {xs : List Int} (h : xs.length ≤ 400) (k : ∀ x ∈ xs, isTok x = true) : isS xs = true := by
  rw [isS_short h]; exact List.all_eq_true.2 k
theorem take_snoc' {xs : List Int} {k : Nat} (h : k < xs.length) : xs.take (k + 1) = xs.take k ++ [xs.getD k 0] := by
  rw [List.take_succ_eq_append_getElem h]; simp [List.getD, h]
theorem all_step {p : Int → Bool} {xs : List Int} {k : Nat} {x : Int} (h : k < xs.length) (hx : x = xs.getD k 0) (ha : (xs.take k).all p = true) (hp : p x = true) : (xs.take (k + 1)).all p = true := by
  rw [take_snoc' h, ← hx]; simp at ha ⊢; exact ⟨ha, hp⟩
theorem all_no {p : Int → Bool} {xs : List Int} {k : Nat} {x : Int} (h : k < xs.length) (hx : x = xs.getD k 0) (hp : p x = false) : xs.all p = false := by
  rw [List.all_eq_false]
  exact ⟨x, by rw [hx]; simp [List.getD, h], by simp [hp]⟩
theorem all_end {p : Int → Bool} {xs : List Int} {k : Nat} (h : ¬ k < xs.length) (ha : (xs.take k).all p = true) : xs.all p = true := by
  rwa [List.take_of_length_le (by omega)] at ha
theorem ret_bool {a b : Bool} (h : b = a) : Ending.returned (.bool a) = .returned (.bool b) := by rw [h]

set_option maxHeartbeats 400000 in
theorem itok_any (n : Int) (w : World) :
    Calls Try.prog 156 #[.int .i64 n] w fun e w' => e = .returned (.bool (isTok n)) ∧ w = w' := by
  have h1 := @isTok_yes n
  have h2 := @isTok_lo n
  have h3 := @isTok_hi n
  generalize isTok n = r at *
  by_cases c1 : n < -999999
  · have e := h2 c1
    clear h1 h2 h3
    subst e
    have c1' : decide (-999999 ≤ n) = false := decide_eq_false (by omega)
    go_enter Try.func156, Try.ntmps156
    go_wp2
    go_ret
    exact ⟨rfl, rfl⟩
  · have c1' : decide (-999999 ≤ n) = true := decide_eq_true (by omega)
    by_cases c2 : n ≤ 999999
    · have e := h1 (by omega) c2
      clear h1 h2 h3
      subst e
      have c2' : decide (n ≤ 999999) = true := decide_eq_true c2
      go_enter Try.func156, Try.ntmps156
      go_wp2
      go_ret
      exact ⟨rfl, rfl⟩
    · have e := h3 (by omega)
      clear h1 h2 h3
      subst e
      have c2' : decide (n ≤ 999999) = false := decide_eq_false c2
      go_enter Try.func156, Try.ntmps156
      go_wp2
      go_ret
      exact ⟨rfl, rfl⟩

set_option maxHeartbeats 400000 in
theorem stok_any (n : Int) (w : World) :
    Calls Try.prog 152 #[.int .i64 n] w fun e w' => e = .returned (.bool (isTok n)) ∧ w = w' := by
  have h1 := @isTok_yes n
  have h2 := @isTok_lo n
  have h3 := @isTok_hi n
  generalize isTok n = r at *
  by_cases c1 : n < -999999
  · have e := h2 c1
    clear h1 h2 h3
    subst e
    have c1' : decide (-999999 ≤ n) = false := decide_eq_false (by omega)
    go_enter Try.func152, Try.ntmps152
    go_wp2
    go_ret
    exact ⟨rfl, rfl⟩
  · have c1' : decide (-999999 ≤ n) = true := decide_eq_true (by omega)
    by_cases c2 : n ≤ 999999
    · have e := h1 (by omega) c2
      clear h1 h2 h3
      subst e
      have c2' : decide (n ≤ 999999) = true := decide_eq_true c2
      go_enter Try.func152, Try.ntmps152
      go_wp2
      go_ret
      exact ⟨rfl, rfl⟩
    · have e := h3 (by omega)
      clear h1 h2 h3
      subst e
      have c2' : decide (n ≤ 999999) = false := decide_eq_false c2
      go_enter Try.func152, Try.ntmps152
      go_wp2
      go_ret
      exact ⟨rfl, rfl⟩

set_option maxHeartbeats 400000 in
theorem istream_any (v : Value) (xs : List Int) (w : World) (h : Sl w v xs) :
    Calls Try.prog 109 #[v] w fun e w' => e = .returned (.bool (isS xs)) ∧ w = w' := by
  obtain ⟨a, cap, rfl, hl, hm, hn, hc⟩ := h
  have hm' : xs.length ≤ 9223372036854775807 := by unfold maxLen at hm; omega
  clear hm hn
  by_cases h4 : xs.length ≤ 400
  · rw [isS_short h4]
    go_enter Try.func109, Try.ntmps109
    go_wp2_with fail
    go_loop [10] (fun i => ∃ k : Nat, k ≤ xs.length ∧ i = .int .i64 k ∧ Hid ((xs.take k).all isTok = true)) (fun i => xs.length - (intOf i).toNat)
    case atStart => exact ⟨0, Nat.zero_le _, rfl, by simp [Hid]⟩
    case round =>
      obtain ⟨k, hk, rfl, hA⟩ := hrel
      by_cases hlt : k < xs.length
      · rcases hc with rfl | ⟨b, off, rfl, _, hcell⟩
        · exact absurd hlt (by simp)
        · obtain ⟨x, hx⟩ : ∃ x, x = xs.getD k 0 := ⟨_, rfl⟩
          have hck := hcell k hlt
          rw [← hx] at hck
          have HX := Lib.hid hx
          clear hx hcell
          cases ht : isTok x with
          | true =>
            go_wp2_with (go_at_call 156; refine (itok_any _ _).mono ?_; rintro e w' ⟨rfl, rfl⟩)
            go_round
            case rel => exact ⟨k + 1, by omega, by go_num, all_step hlt HX.out hA.out ht⟩
            case measure => simp [intOf]; omega
          | false =>
            go_wp2_with (go_at_call 156; refine (itok_any _ _).mono ?_; rintro e w' ⟨rfl, rfl⟩)
            go_ret
            exact ⟨ret_bool (all_no hlt HX.out ht), rfl⟩
      · go_wp2_with fail
        go_ret
        exact ⟨ret_bool (all_end hlt hA.out), rfl⟩
  · rw [isS_long h4]
    go_enter Try.func109, Try.ntmps109
    go_wp2_with fail
    go_ret
    exact ⟨rfl, rfl⟩

set_option maxHeartbeats 400000 in
theorem sstream_any (v : Value) (xs : List Int) (w : World) (h : Sl w v xs) :
    Calls Try.prog 103 #[v] w fun e w' => e = .returned (.bool (isS xs)) ∧ w = w' := by
  obtain ⟨a, cap, rfl, hl, hm, hn, hc⟩ := h
  have hm' : xs.length ≤ 9223372036854775807 := by unfold maxLen at hm; omega
  clear hm hn
  go_enter Try.func103, Try.ntmps103
  go_wp2_with fail
  go_loop [7] (fun i => ∃ k : Nat, k ≤ xs.length ∧ i = .int .i64 k ∧ Hid ((xs.take k).all isTok = true)) (fun i => xs.length - (intOf i).toNat)
  case atStart => exact ⟨0, Nat.zero_le _, rfl, by simp [Hid]⟩
  case round =>
    obtain ⟨k, hk, rfl, hA⟩ := hrel
    by_cases hlt : k < xs.length
    · rcases hc with rfl | ⟨b, off, rfl, _, hcell⟩
      · exact absurd hlt (by simp)
      · obtain ⟨x, hx⟩ : ∃ x, x = xs.getD k 0 := ⟨_, rfl⟩
        have hck := hcell k hlt
        rw [← hx] at hck
        have HX := Lib.hid hx
        clear hx hcell
        cases ht : isTok x with
        | true =>
          go_wp2_with (go_at_call 152; refine (stok_any _ _).mono ?_; rintro e w' ⟨rfl, rfl⟩)
          go_round
          case rel => exact ⟨k + 1, by omega, by go_num, all_step hlt HX.out hA.out ht⟩
          case measure => simp [intOf]; omega
        | false =>
          go_wp2_with (go_at_call 152; refine (stok_any _ _).mono ?_; rintro e w' ⟨rfl, rfl⟩)
          go_ret
          exact ⟨ret_bool (by unfold isS; rw [all_no hlt HX.out ht]; simp), rfl⟩
    · go_wp2_with fail
      go_ret
      exact ⟨ret_bool (by unfold isS; rw [all_end hlt hA.out]; simp; omega), rfl⟩

theorem take_step {xs ys : List Int} {k : Nat} {x : Int} (h1 : k < xs.length) (h2 : k < ys.length) (hx : x = xs.getD k 0) (hy : x = ys.getD k 0) (h : xs.take k = ys.take k) : xs.take (k + 1) = ys.take (k + 1) := by
  rw [take_snoc' h1, take_snoc' h2, ← hx, ← hy, h]
theorem ne_at {xs ys : List Int} {k : Nat} {x y : Int} (hx : x = xs.getD k 0) (hy : y = ys.getD k 0) (h : x ≠ y) : decide (xs = ys) = false :=
  decide_eq_false fun e => h (by rw [hx, hy, e])
theorem eq_end {xs ys : List Int} {k : Nat} (h1 : xs.length ≤ k) (h2 : ys.length ≤ k) (h : xs.take k = ys.take k) : decide (xs = ys) = true := by
  rw [List.take_of_length_le h1, List.take_of_length_le h2] at h
  exact decide_eq_true h
theorem ne_len {xs ys : List Int} (h : xs.length ≠ ys.length) : decide (xs = ys) = false := decide_eq_false fun e => h (by rw [e])
theorem drewN_add (w : World) (a b : Nat) : (w.drewN a).drewN b = w.drewN (a + b) := by
  unfold World.drewN; simp [Nat.add_assoc]

set_option maxHeartbeats 400000 in
theorem eqS_any (v u : Value) (xs ys : List Int) (w : World) (h : Sl w v xs) (k : Sl w u ys) :
    Calls Try.prog 18 #[v, u] w fun e w' => e = .returned (.bool (decide (xs = ys))) ∧ ∃ m, w' = w.drewN m := by
  obtain ⟨a, cap, rfl, hl, hm, hn, hc⟩ := h
  obtain ⟨a2, cap2, rfl, hl2, hm2, hn2, hc2⟩ := k
  have hm' : xs.length ≤ 9223372036854775807 := by unfold maxLen at hm; omega
  have hm2' : ys.length ≤ 9223372036854775807 := by unfold maxLen at hm2; omega
  clear hm hn hm2 hn2 hl hl2
  by_cases he : xs.length = ys.length
  · obtain ⟨n, hxn⟩ : ∃ n, xs.length = n := ⟨_, rfl⟩
    have hyn : ys.length = n := by omega
    rw [hxn] at hc hm' ⊢
    rw [hyn] at hc2 ⊢
    have HXN := Lib.hid hxn
    have HYN := Lib.hid hyn
    clear he hxn hyn hm2'
    go_enter Try.func18, Try.ntmps18
    go_wp2_with fail
    go_loopw [5] (fun i wr => ∃ k m : Nat, k ≤ n ∧ i = .int .i64 k ∧ Hid (xs.take k = ys.take k) ∧ wr = w.drewN m) (fun i _ => n - (intOf i).toNat)
    case atStart => exact ⟨0, 0, Nat.zero_le _, rfl, by simp [Hid], rfl⟩
    case round =>
      obtain ⟨k, m, hk, rfl, hE, rfl⟩ := hrel
      by_cases hlt : k < n
      · rcases hc with rfl | ⟨b, off, rfl, _, hcell⟩
        · exact absurd hlt (by have := HXN.out; simp at this; omega)
        · rcases hc2 with rfl | ⟨b2, off2, rfl, _, hcell2⟩
          · exact absurd hlt (by have := HYN.out; simp at this; omega)
          · obtain ⟨x, hx⟩ : ∃ x, x = xs.getD k 0 := ⟨_, rfl⟩
            obtain ⟨y, hy⟩ : ∃ y, y = ys.getD k 0 := ⟨_, rfl⟩
            have hck := hcell k hlt
            have hck2 := hcell2 k hlt
            rw [← hx] at hck
            rw [← hy] at hck2
            have HX := Lib.hid hx
            have HY := Lib.hid hy
            clear hx hy hcell hcell2
            by_cases hxy : x = y
            · subst hxy
              go_wp2_with fail
              go_quiet (fail)
              go_wp2_with fail
              go_roundw
              case rel => exact ⟨k + 1, _, by omega, by go_num, take_step (by rw [HXN.out]; exact hlt) (by rw [HYN.out]; exact hlt) HX.out HY.out hE.out, rfl⟩
              case measure => simp [intOf]; omega
            · go_wp2_with fail
              go_quiet (fail)
              go_wp2_with fail
              go_ret
              exact ⟨ret_bool (ne_at HX.out HY.out hxy), _, drewN_add _ _ _⟩
      · go_wp2_with fail
        go_ret
        exact ⟨ret_bool (eq_end (by rw [HXN.out]; omega) (by rw [HYN.out]; omega) hE.out), _, rfl⟩
  · rw [ne_len he]
    go_enter Try.func18, Try.ntmps18
    go_wp2_with fail
    go_ret
    exact ⟨rfl, 0, rfl⟩

theorem below_drewN (w : World) (n : Nat) : Below w.heap.size w (w.drewN n) := Below.toDraw (Below.refl _ _) n

theorem eqS_ok (v u : Value) (xs : List Int) (w : World) (h : Sl w v xs) (k : Sl w u xs) :
    Calls Try.prog 18 #[v, u] w fun e w' => e = .returned (.bool true) ∧ Below w.heap.size w w' :=
  (eqS_any v u xs xs w h k).mono fun e w' ⟨he, m, hw⟩ => ⟨by rw [he]; simp, hw ▸ below_drewN w m⟩
theorem sstreamB (v : Value) (xs : List Int) (w : World) (h : Sl w v xs) :
    Calls Try.prog 103 #[v] w fun e w' => e = .returned (.bool (isS xs)) ∧ Below w.heap.size w w' :=
  (sstream_any v xs w h).mono fun _ _ ⟨he, hw⟩ => ⟨he, hw ▸ Below.refl _ _⟩
theorem istreamB (v : Value) (xs : List Int) (w : World) (h : Sl w v xs) :
    Calls Try.prog 109 #[v] w fun e w' => e = .returned (.bool (isS xs)) ∧ Below w.heap.size w w' :=
  (istream_any v xs w h).mono fun _ _ ⟨he, hw⟩ => ⟨he, hw ▸ Below.refl _ _⟩

theorem size1 : (Try.prog.info? 3).map (·.size) = some 1 := by kernel_rfl

theorem own_heap {w : World} {lo g n : Nat} {L : List Value} (h : w.ownsRow lo 3 1 (.slice (some ⟨g, 0, none⟩) n n) n L) : w.heap[g]? = some (.cells L.toArray 3 (0, 0)) := by
  rcases h.2 with ⟨h', _⟩ | ⟨g', cap', cur, h', hb, hg, hnc, hcm, hcs, htake⟩
  · simp at h'
  · simp only [Value.slice.injEq, Option.some.injEq, Addr.mk.injEq, and_true, true_and] at h'
    obtain ⟨rfl, rfl⟩ := h'
    rw [hg, ← htake, List.take_of_length_le (by simp [hcs])]

theorem heap_own {w : World} {lo g n : Nat} {L : List Value} (h : w.heap[g]? = some (.cells L.toArray 3 (0, 0))) (hn : L.length = n) (hlo : lo ≤ g) (hm : n ≤ maxLen) : w.ownsRow lo 3 1 (.slice (some ⟨g, 0, none⟩) n n) n L :=
  ⟨by omega, .inr ⟨g, n, _, rfl, hlo, h, Nat.le_refl _, hm, by simp [hn], by simp [← hn]⟩⟩

theorem splice_all {α : Type} {Z cs : List α} (h : Z.length = cs.length) : splice Z 0 cs = cs := by
  simp [splice, h]

/-- The cells of a source, where there is one. -/
theorem src_at {w : World} {b off : Nat} {xs : List Int} (hc : ∀ i, i < xs.length → w.cell? ⟨b, off + i, none⟩ = some (.int .i64 (xs.getD i 0))) :
    ∀ j u, (vals xs)[j]? = some u → w.cell? ((⟨b, off, none⟩ : Addr).add j) = some u := by
  intro j u hu
  have hj : j < xs.length := by
    have := (List.getElem?_eq_some_iff.1 hu).1
    simpa [vals] using this
  rw [Addr.add_lit, hc j hj]
  simpa [vals, List.getD, hj] using hu

theorem vals_one (xs : List Int) : ∀ u ∈ vals xs, u.oneCell' = true := ints_oneCell .i64 xs
theorem vals_len (xs : List Int) : (vals xs).length = xs.length := by simp [vals]

theorem Sl.src {w : World} {ad : Addr} {n cap : Nat} {xs : List Int} (h : Sl w (.slice (some ad) n cap) xs) : n = xs.length ∧ ∀ j u, (vals xs)[j]? = some u → w.cell? (ad.add j) = some u := by
  obtain ⟨a, c, hv, _, _, _, hc⟩ := h
  simp only [Value.slice.injEq] at hv
  obtain ⟨rfl, rfl, rfl⟩ := hv
  refine ⟨rfl, ?_⟩
  rcases hc with rfl | ⟨b, off, he, _, hc⟩
  · intro j u hu; simp [vals] at hu
  · obtain rfl := Option.some.inj he
    exact src_at hc

theorem Sl.take {w : World} {a : Option Addr} {cap n : Nat} {xs : List Int} (h : Sl w (.slice a xs.length cap) xs) (hn : n ≤ xs.length) : Sl w (.slice a n cap) (xs.take n) := by
  obtain ⟨a', c, hv, h1, h2, h3, hc⟩ := h
  simp only [Value.slice.injEq, true_and] at hv
  obtain ⟨rfl, rfl⟩ := hv
  have hl : (xs.take n).length = n := by simp; omega
  refine ⟨a, cap, by rw [hl], by omega, h2, h3, ?_⟩
  rcases hc with rfl | ⟨b, off, he, hb, hc⟩
  · left; simp
  · right
    refine ⟨b, off, he, hb, fun i hi => ?_⟩
    rw [hc i (by omega)]
    simp only [List.getD_eq_getElem?_getD, List.getElem?_take]
    rw [if_pos (by omega)]

theorem Sl.drop {w : World} {a : Option Addr} {cap n : Nat} {xs : List Int} (h : Sl w (.slice a xs.length cap) xs) (hn : n < cap) (hx : n ≤ xs.length) :
    ∃ ad : Addr, a = some ad ∧ Sl w (.slice (some (ad.add n)) (xs.length - n) (cap - n)) (xs.drop n) := by
  obtain ⟨a', c, hv, h1, h2, h3, hc⟩ := h
  simp only [Value.slice.injEq, true_and] at hv
  obtain ⟨rfl, rfl⟩ := hv
  cases a with
  | none => exact absurd (h3 rfl) (by omega)
  | some ad =>
    refine ⟨ad, rfl, some (ad.add n), cap - n, by simp, by simp; omega, by omega, (fun h => by cases h), ?_⟩
    rcases hc with rfl | ⟨b, off, he, hb, hc⟩
    · left; simp
    · obtain rfl := Option.some.inj he
      right
      refine ⟨b, off + n, by rw [Addr.add_lit], hb, fun i hi => ?_⟩
      have hi' : i < xs.length - n := by simpa using hi
      rw [Nat.add_assoc, hc (n + i) (by omega)]
      simp [List.getD]

theorem lit0 (w : World) : (w.alloc (.cells #[] 3)).ownsRow w.heap.size 3 1 (.slice (some ⟨w.heap.size, 0, none⟩) 0 0) 0 [] :=
  World.ownsRow_made w #[] 0 (Nat.le_refl _) (by unfold maxLen; omega) rfl

theorem one_src (w : World) (x : Int) : ∀ j u, [Value.int .i64 x][j]? = some u → (w.alloc (.cells #[.int .i64 x] 3)).cell? ((⟨w.heap.size, 0, none⟩ : Addr).add j) = some u := by
  intro j u hj
  match j, hj with
  | 0, hj => simp at hj; subst hj; simp [Addr.add]
theorem one_one (x : Int) : ∀ u ∈ [Value.int .i64 x], u.oneCell' = true := by
  intro u hu; simp at hu; subst hu; rfl

theorem app_rel {w wr w1 : World} {B lo : Nat} {v v' : Value} {L : List Int} {x : Int} {o : Obj} (hb : Below B w wr) (hB : B ≤ wr.heap.size) (hlo : B ≤ lo) (ho : Own lo wr v L)
    (hown : w1.ownsRow lo 3 1 v' (L.length + 1) (vals L ++ [.int .i64 x])) (hg : (wr.alloc o).grownBy w1 v.ownBlock) : Own lo w1 v' (L ++ [x]) ∧ Below B w w1 := by
  refine ⟨?_, (hb.alloc hB o).grown hg (by simp; omega) (fun k e => Nat.le_trans hlo (ho.lt k e).1)⟩
  unfold Own
  simpa [vals] using hown

theorem app_other {wr w1 : World} {lo : Nat} {v v' u : Value} {M : List Int} {o : Obj} (hu : Own lo wr u M) (hap : Apart u v)
    (hg : (wr.alloc o).grownBy w1 v.ownBlock) (hat : v'.ownBlock = v.ownBlock ∨ v'.ownBlock = some (wr.heap.size + 1)) : Own lo w1 u M ∧ Apart u v' := by
  refine ⟨World.ownsRow.kept (World.ownsRow.alloc hu o) hg hap, ?_⟩
  rcases hat with hat | hat
  · unfold Apart; rw [hat]; exact hap
  · cases h : u.ownBlock with
    | none => exact .inl h
    | some k =>
      have := (hu.lt k h).2
      right; rw [hat, h]; intro e; simp at e; omega

theorem own_nil (lo : Nat) (w : World) : Own lo w (.slice none 0 0) [] := World.ownsRow_nil _ _ _ _
theorem lit1 (w : World) : Own w.heap.size ((w.alloc (.cells #[] 3)).alloc (.cells #[] 3)) (.slice (some ⟨w.heap.size + 1, 0, none⟩) 0 0) [] := by
  have h := World.ownsRow_made (base := w.heap.size) (e := 3) (size := 1) (w.alloc (.cells #[] 3)) #[] 0 (by simp) (by unfold maxLen; omega) rfl
  rw [show (w.alloc (.cells #[] 3)).heap.size = w.heap.size + 1 by simp] at h
  exact h
theorem apart_nil (u : Value) : Apart (.slice none 0 0) u := .inl rfl

def lenOf : Value → Nat | .slice _ n _ => n | _ => 0
theorem Own.shape {lo : Nat} {w : World} {v : Value} {xs : List Int} (h : Own lo w v xs) : ∃ a c, v = .slice a xs.length c := by
  rcases h.2 with ⟨rfl, hn⟩ | ⟨g, cap, cur, rfl, _⟩
  · exact ⟨none, 0, by rw [hn]⟩
  · exact ⟨_, _, rfl⟩

theorem lenOf_own {lo : Nat} {w : World} {v : Value} {xs : List Int} (h : Own lo w v xs) : lenOf v = xs.length := by
  obtain ⟨a, c, rfl⟩ := h.shape; rfl


/-- append(v, u...), v a slice of ints of the call's own, u any slice of ints, nil too: a law for the walk. -/
theorem wpList_append_sl {w : World} {ops : Array Oper} {rest : List Oper} {o : Oper} {a : Act} {Q : Exit → Act → World → Prop} (hgd : o.guard = none) (s x : Operand)
    (ho : o.op = .call { callee := .builtin .append, args := #[s, x], argTypes := #[26, 26] }) (base : Nat) (v : Value) (L : List Int) (hs : a.eval s = v) (hown : Own base w v L)
    (ao : Option Addr) (m c : Nat) (ys : List Int) (hx : a.eval x = .slice ao m c) (hsl : Sl w (.slice ao m c) ys) (hlen : L.length + ys.length ≤ 4000000) (hbase : base ≤ w.heap.size)
    (h : ∀ v' w', Own base w' v' (L ++ ys) → w.grownBy w' v.ownBlock → wpList Try.prog ops Q rest (a.put o.dst v') w') : wpList Try.prog ops Q (o :: rest) a w := by
  obtain ⟨i0, hi, hz0, hz1, hz2⟩ := info_parts info
  cases ao with
  | none =>
    obtain ⟨a', c', hv, h1, _, h3, _⟩ := hsl
    simp only [Value.slice.injEq] at hv
    obtain ⟨rfl, rfl, rfl⟩ := hv
    obtain rfl : c = 0 := h3 rfl
    obtain rfl : ys = [] := List.eq_nil_of_length_eq_zero (by omega)
    refine wpList_append_own_none hgd s x 26 ho base 3 i0 1 Try.underlying26 hi v L.length (vals L) hs hown hx ?_
    exact h v w (by rw [List.append_nil]; exact hown) (World.grownBy.refl _ _)
  | some ad =>
    obtain ⟨rfl, hsrc⟩ := hsl.src
    refine wpList_append_own w hgd s x 26 ho base 3 i0 (.int .i64 0) 1 8 Try.underlying26 hi hz0 hz1 hz2 rfl (by decide) v L.length (vals L) hs hown ad ys.length c (vals ys) hx (by rw [vals_len, Nat.mul_one]) hsrc (vals_one ys) (by unfold maxLen; omega) (by omega) hbase ?_
    intro v' w' hown' hg _
    refine h v' w' ?_ hg
    unfold Own
    rw [List.length_append, show vals (L ++ ys) = vals L ++ vals ys by simp [vals]]
    exact hown'

def fill (xs : List Int) (k : Nat) : List Int := xs.take k ++ List.replicate (xs.length - k) 0
theorem fill_zero (xs : List Int) : vals (fill xs 0) = List.replicate xs.length (.int .i64 0) := by simp [fill, vals]
theorem fill_len {xs : List Int} {k : Nat} (h : k ≤ xs.length) : (fill xs k).length = xs.length := by simp [fill]; omega
theorem fill_all (xs : List Int) {k : Nat} (h : ¬ k < xs.length) : fill xs k = xs := by simp [fill, List.take_of_length_le (show xs.length ≤ k by omega), show xs.length - k = 0 by omega]
theorem fill_step {xs : List Int} {k : Nat} {x : Int} (h : k < xs.length) (hx : x = xs.getD k 0) : (vals (fill xs k)).set k (.int .i64 x) = vals (fill xs (k + 1)) := by
  subst hx
  apply List.ext_getElem?
  intro j
  simp only [vals, fill, List.getElem?_set, List.length_map, List.length_append, List.length_take, List.length_replicate, List.getElem?_map, List.getElem?_append, List.getElem?_take, List.getElem?_replicate]
  by_cases e : k = j
  · subst e
    simp [h, List.getD, show k < min k xs.length + (xs.length - k) by omega]
    rw [if_pos (by omega)]
    rfl
  · by_cases hj : j < k
    · simp [e, show j < k + 1 by omega, hj, show j < min k xs.length by omega, show j < min (k + 1) xs.length by omega]
    · simp [e, show ¬ j < min k xs.length by omega, show ¬ j < min (k + 1) xs.length by omega]
      by_cases h2 : j < xs.length
      · rw [if_pos (by omega), if_pos (by omega)]
      · rw [if_neg (by omega), if_neg (by omega)]

theorem made_fill {w1 : World} {B : Nat} {v : Value} {xs : List Int} (h : w1.ownsRow B 3 1 v xs.length (madeCells #[Value.int IntKind.i64 0] xs.length).toList) : w1.ownsRow B 3 1 v xs.length (vals (fill xs 0)) := by
  rw [fill_zero, ← toList_madeCells_one]; exact h

set_option maxHeartbeats 400000 in
theorem toInt_any (v : Value) (xs : List Int) (w : World) (h : Sl w v xs) (hs : xs.length ≤ 1048576) :
    Calls Try.prog 15 #[v] w fun e w' => ∃ v', e = .returned v' ∧ Own w.heap.size w' v' xs ∧ Below w.heap.size w w' := by
  obtain ⟨a, cap, rfl, hl, hm, hn, hc⟩ := h
  clear hm hn hl
  obtain ⟨i0, hi, hz0, hz1, hz2⟩ := info_parts info
  go_enter Try.func15, Try.ntmps15
  go_wp2_with (at_make; refine wpList_make_full _ rfl _ _ 26 rfl w.heap.size 3 i0 (.int .i64 0) 1 Try.underlying26 hi hz0 hz1 _ _ _ _ xs.length rfl rfl rfl rfl ?b2 ?b3 ?b4 ?_)
  case b2 => rw [hz2]; omega
  case b3 => unfold maxLen; omega
  case b4 => exact Nat.le_refl _
  intro w1 hown hgrow
  have hb := (Below.refl w.heap.size w).grown hgrow (Nat.le_refl _) (by simp)
  have hz : w.heap.size < w1.heap.size := (hown.lt w.heap.size rfl).2
  have hown := made_fill hown
  clear hgrow hi hz0 hz1 hz2
  go_wp2_with fail
  go_loopw [4] (fun i wr => ∃ k : Nat, k ≤ xs.length ∧ i = .int .i64 k ∧ wr.ownsRow w.heap.size 3 1 (.slice (some ⟨w.heap.size, 0, none⟩) xs.length xs.length) xs.length (vals (fill xs k)) ∧ Below w.heap.size w wr) (fun i _ => xs.length - (intOf i).toNat)
  case atStart => exact ⟨0, Nat.zero_le _, rfl, hown, hb⟩
  case round =>
    clear hown hb hz
    obtain ⟨k, hk, rfl, hown, hb⟩ := hrel
    by_cases hlt : k < xs.length
    · rcases hc with rfl | ⟨b, off, rfl, hbl, hcell⟩
      · exact absurd hlt (by simp)
      · obtain ⟨x, hx⟩ : ∃ x, x = xs.getD k 0 := ⟨_, rfl⟩
        have hck := (hb.cell (p := ⟨b, off + k, none⟩) hbl).trans (hcell k hlt)
        rw [← hx] at hck
        have HX := Lib.hid hx
        have HO := Lib.hid hown
        have hfz := hown.frozenAt k
        have hck2 : wr.cell? ⟨w.heap.size, k, none⟩ = (vals (fill xs k))[k]? := hown.cellAt k (by omega)
        have hck3 : ∃ y, wr.cell? ⟨w.heap.size, k, none⟩ = some y := by
          rw [hck2, List.getElem?_eq_getElem (by simp [vals, fill_len hk, hlt])]; exact ⟨_, rfl⟩
        obtain ⟨y, hy⟩ := hck3
        clear hx hcell hown hck2
        go_wp2_with fail
        go_roundw
        case rel =>
          refine ⟨k + 1, by omega, by go_num, ?_, hb.setCell (Nat.le_refl _) _⟩
          have := (HO.out.stored k (.int .i64 x)).1
          rwa [fill_step hlt HX.out] at this
        case measure => simp [intOf]; omega
    · go_wp2_with fail
      go_ret
      refine ⟨_, rfl, ?_, hb⟩
      rw [fill_all _ hlt] at hown
      exact hown

def marks (k : Int) (n : Nat) : List Int := (List.range n).map fun (i : Nat) => k + (i : Int)
def marked (xs : List Int) (k : Int) (j : Nat) : List Int := marks k j ++ xs.drop j
theorem marks_len (k : Int) (n : Nat) : (marks k n).length = n := by simp [marks]
theorem marked_len {xs : List Int} {k : Int} {j : Nat} (h : j ≤ xs.length) : (marked xs k j).length = xs.length := by simp [marked, marks_len]; omega
theorem marked_all (xs : List Int) (k : Int) {j : Nat} (h : j = xs.length) : marked xs k j = marks k xs.length := by simp [marked, h]
theorem marked_step {xs : List Int} {k : Int} {j : Nat} (h : j < xs.length) : (vals (marked xs k j)).set j (.int .i64 (k + (j : Int))) = vals (marked xs k (j + 1)) := by
  unfold vals marked marks
  rw [List.range_succ]
  simp
  rw [List.drop_eq_getElem_cons (by simpa using h)]
  rfl
theorem marks_getD {k : Int} {n j : Nat} (h : j < n) : (marks k n).getD j 0 = k + (j : Int) := by
  simp [marks, List.getD, h]

set_option maxHeartbeats 400000 in
theorem mark_any (lo : Nat) (v : Value) (xs : List Int) (k : Int) (w : World) (h : Own lo w v xs) (hk0 : 0 ≤ k) (hk : k ≤ 2000000000) (hs : xs.length ≤ 2000000000) :
    Calls Try.prog 20 #[v, .int .i64 k] w fun e w' => e = .returned (.int .i64 (k + (xs.length : Int))) ∧ Own lo w' v (marks k xs.length) ∧ w.grownBy w' v.ownBlock := by
  by_cases h0 : xs = []
  · subst h0
    obtain ⟨a, cap, rfl, _, _, _, _⟩ := h.sl
    have HO := Lib.hid h
    clear h
    go_enter Try.func20, Try.ntmps20
    go_wp2_with fail
    go_loop [1, 5] (fun t i => t = .int .i64 k ∧ i = .int .i64 0) (fun _ _ => 0)
    case atStart => exact ⟨rfl, rfl⟩
    case round =>
      obtain ⟨rfl, rfl⟩ := hrel
      go_wp2_with fail
      go_ret
      exact ⟨by simp, HO.out, World.grownBy.refl _ _⟩
  · have hne : 0 < xs.length := List.length_pos_iff.2 h0
    rcases h.2 with ⟨_, hn⟩ | ⟨g, cap, cur, rfl, hlo, _, hcap, _⟩
    · exact absurd hn (by omega)
    · have HO : Hid (w.ownsRow lo 3 1 (.slice (some ⟨g, 0, none⟩) xs.length cap) xs.length (vals xs)) := h
      have hg0 : w.grownBy w (some g) := World.grownBy.refl _ _
      clear h h0
      go_enter Try.func20, Try.ntmps20
      go_wp2_with fail
      go_loopw [1, 5] (fun t i wr => ∃ j : Nat, j ≤ xs.length ∧ i = .int .i64 j ∧ t = .int .i64 (k + (j : Int)) ∧ Hid (wr.ownsRow lo 3 1 (.slice (some ⟨g, 0, none⟩) xs.length cap) xs.length (vals (marked xs k j))) ∧ w.grownBy wr (some g)) (fun _ i _ => xs.length - (intOf i).toNat)
      case atStart => exact ⟨0, Nat.zero_le _, rfl, by simp, HO, hg0⟩
      case round =>
        clear HO hg0
        obtain ⟨j, hj, rfl, rfl, HO, hg⟩ := hrel
        by_cases hlt : j < xs.length
        · have hfz := HO.out.frozenAt j
          have hck3 : ∃ y, wr.cell? ⟨g, j, none⟩ = some y := by
            rw [HO.out.cellAt j (by omega), List.getElem?_eq_getElem (by simp [vals, marked_len hj, hlt])]; exact ⟨_, rfl⟩
          obtain ⟨y, hy⟩ := hck3
          have R := HO.out.stored j (.int .i64 (k + (j : Int)))
          rw [marked_step hlt] at R
          have HR := Lib.hid R
          clear R HO
          go_wp2_with fail
          go_roundw
          case rel => exact ⟨j + 1, by omega, by go_num, by go_num, HR.out.1, hg.trans HR.out.2⟩
          case measure => simp [intOf]; omega
        · obtain rfl : j = xs.length := by omega
          go_wp2_with fail
          go_ret
          refine ⟨by simp, ?_, hg⟩
          have := HO.out
          rw [marked_all xs k rfl] at this
          unfold Own
          rw [marks_len]
          exact this

set_option maxHeartbeats 400000 in
theorem held_any (v : Value) (k : Int) (n : Nat) (w : World) (h : Sl w v (marks k n)) (hk0 : 0 ≤ k) (hk : k ≤ 2000000000) (hs : n ≤ 2000000000) :
    Calls Try.prog 40 #[v, .int .i64 k] w fun e w' => e = .returned (.int .i64 (k + (n : Int))) ∧ w = w' := by
  obtain ⟨a, cap, rfl, hl, hm, hn, hc⟩ := h
  clear hm hn hl
  have hc : n = 0 ∨ ∃ b off, a = some ⟨b, off, none⟩ ∧ ∀ i, i < n → w.cell? ⟨b, off + i, none⟩ = some (.int .i64 (k + (i : Int))) := by
    rcases hc with hc | ⟨b, off, ha, _, hc⟩
    · left; simpa [marks] using hc
    · right; exact ⟨b, off, ha, fun i hi => by rw [hc i (by rw [marks_len]; exact hi), marks_getD hi]⟩
  rw [marks_len]
  go_enter Try.func40, Try.ntmps40
  go_wp2_with fail
  go_loop [1, 5] (fun t i => ∃ j : Nat, j ≤ n ∧ i = .int .i64 j ∧ t = .int .i64 (k + (j : Int))) (fun _ i => n - (intOf i).toNat)
  case atStart => exact ⟨0, Nat.zero_le _, rfl, by simp⟩
  case round =>
    obtain ⟨j, hj, rfl, rfl⟩ := hrel
    by_cases hlt : j < n
    · rcases hc with rfl | ⟨b, off, rfl, hcell⟩
      · exact absurd hlt (by omega)
      · have hck := hcell j hlt
        clear hcell
        go_wp2_with fail
        go_round
        case rel => exact ⟨j + 1, by omega, by go_num, by go_num⟩
        case measure => simp [intOf]; omega
    · obtain rfl : j = n := by omega
      go_wp2_with fail
      go_ret
      exact ⟨by simp, rfl⟩
end Go.Proofs.Ytkeoefbkeommhaa
