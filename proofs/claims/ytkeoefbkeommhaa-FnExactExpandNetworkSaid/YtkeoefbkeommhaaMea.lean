/-
  What MeetStreams leaves, in the program and in its model; and what an append of one token to a slice of the call's own leaves. No statement of the seat is proved here.
  What AppendStream leaves, in the program and in its model. No statement of the seat is proved here.
-/
import Derived.Test.YtkeoefbkeommhaaPma
namespace Go.Proofs.Ytkeoefbkeommhaa
open Go.RowKit

/-! ### MeetStreams -/
def cpn : List Int → List Int → Nat
  | x :: xs, y :: ys => if x = y then cpn xs ys + 1 else 0
  | _, _ => 0
theorem cpn_le : ∀ xs ys : List Int, cpn xs ys ≤ xs.length
  | [], _ => by simp [cpn]
  | _ :: _, [] => by simp [cpn]
  | x :: xs, y :: ys => by
    have := cpn_le xs ys
    unfold cpn
    split
    · simp; omega
    · simp
theorem cpn_of (k : Nat) : ∀ xs ys : List Int, xs.take k = ys.take k → k ≤ xs.length → k ≤ ys.length → (k = xs.length ∨ k = ys.length ∨ xs.getD k 0 ≠ ys.getD k 0) → cpn xs ys = k := by
  induction k with
  | zero =>
    intro xs ys _ _ _ h
    match xs, ys with
    | [], _ => simp [cpn]
    | _ :: _, [] => simp [cpn]
    | x :: xs, y :: ys =>
      simp at h
      simp [cpn, h]
  | succ k ih =>
    intro xs ys he h1 h2 h
    match xs, ys with
    | [], _ => simp at h1
    | _ :: _, [] => simp at h2
    | x :: xs, y :: ys =>
      simp at he h1 h2 h
      obtain ⟨rfl, he⟩ := he
      simp [cpn, ih xs ys he h1 h2 (by simpa using h)]

def meetStreamsR0 (xs ys : List Int) : List Int := if isS xs && isS ys then xs.take (cpn xs ys) else []
theorem meetStreams_len0 (xs ys : List Int) : (meetStreamsR0 xs ys).length ≤ 400 := by
  unfold meetStreamsR0
  split
  · rename_i h; simp at h; have := isS_len h.1; simp; omega
  · simp
theorem meet1 {xs ys : List Int} (h : isS xs = false) : meetStreamsR0 xs ys = [] := by simp [meetStreamsR0, h]
theorem meet2 {xs ys : List Int} (h : isS ys = false) : meetStreamsR0 xs ys = [] := by simp [meetStreamsR0, h]
theorem meet3 {xs ys : List Int} (h : isS xs = true) (k : isS ys = true) : meetStreamsR0 xs ys = xs.take (cpn xs ys) := by simp [meetStreamsR0, h, k]

def appB (xs ys : List Int) : Bool := isS xs && isS ys && decide (xs.length + ys.length ≤ 400)
def appendStreamR0 (xs ys : List Int) : List Int := if appB xs ys then xs ++ ys else []
theorem appB_eq (xs ys : List Int) : isS (xs ++ ys) = appB xs ys := by
  unfold appB isS
  rw [List.length_append, List.all_append]
  cases xs.all isTok <;> cases ys.all isTok <;> simp
  omega
theorem appendStream_len0 (xs ys : List Int) : (appendStreamR0 xs ys).length ≤ 400 := by
  unfold appendStreamR0
  split
  · rename_i h; unfold appB at h; simp at h; simp; omega
  · simp
theorem app1 {xs ys : List Int} (h : isS xs = false) : appendStreamR0 xs ys = [] ∧ appB xs ys = false := by simp [appendStreamR0, appB, h]
theorem app2 {xs ys : List Int} (h : isS ys = false) : appendStreamR0 xs ys = [] ∧ appB xs ys = false := by simp [appendStreamR0, appB, h]
theorem app3 {xs ys : List Int} (h : ¬ xs.length + ys.length ≤ 400) : appendStreamR0 xs ys = [] ∧ appB xs ys = false := by simp [appendStreamR0, appB, h]
theorem app4 {xs ys : List Int} (h : isS xs = true) (k : isS ys = true) (l : xs.length + ys.length ≤ 400) : appendStreamR0 xs ys = xs ++ ys ∧ appB xs ys = true := by simp [appendStreamR0, appB, h, k, l]
theorem app5 {xs ys : List Int} (h : appB xs ys = true) : appendStreamR0 xs ys = xs ++ ys := by simp [appendStreamR0, h]
theorem app6 {xs ys : List Int} (h : appB xs ys = false) : appendStreamR0 xs ys = [] := by simp [appendStreamR0, h]
theorem vals_app (xs ys : List Int) : vals (xs ++ ys) = vals xs ++ vals ys := by simp [vals]

theorem splice_two {Z A B : List Value} (h : Z.length = A.length + B.length) : splice (splice Z 0 A) A.length B = A ++ B := by
  have e : splice Z 0 A = A ++ Z.drop A.length := by simp [splice]
  rw [e]
  simp only [splice]
  rw [List.take_left' rfl, List.drop_eq_nil_of_le (by simp; omega), List.append_nil]

theorem copy_src {w1 : World} {a : Option Addr} {xs : List Int} {cap : Nat} {A : List Value} (h : Sl w1 (.slice a xs.length cap) xs) (hA : A = vals xs) (hp : 0 < A.length) :
    ∃ ad, a = some ad ∧ ∀ j v, A[j]? = some v → w1.cell? (ad.add j) = some v := by
  subst hA
  rw [vals_len] at hp
  cases a with
  | none =>
    obtain ⟨a', c, hv, h1, h2, h3, hc⟩ := h
    simp only [Value.slice.injEq, true_and] at hv
    obtain ⟨rfl, rfl⟩ := hv
    have := h3 rfl
    omega
  | some ad => exact ⟨ad, rfl, h.src.2⟩

set_option maxHeartbeats 1600000 in
theorem iappend_any (v : Value) (xs : List Int) (u : Value) (ys : List Int) (w : World) (h : Sl w v xs) (k : Sl w u ys) :
    Calls Try.prog 52 #[v, u] w fun e w' => ∃ r, e = .returned (.tuple #[r, .bool (appB xs ys)]) ∧ Own w.heap.size w' r (appendStreamR0 xs ys) ∧ Below w.heap.size w w' := by
  obtain ⟨a, cap, rfl, hr⟩ := h
  obtain ⟨a2, cap2, rfl, hr2⟩ := k
  have H := Lib.hid (show Sl w (.slice a xs.length cap) xs from ⟨a, cap, rfl, hr⟩)
  have K := Lib.hid (show Sl w (.slice a2 ys.length cap2) ys from ⟨a2, cap2, rfl, hr2⟩)
  have C1 := Lib.hid (istream_any _ xs w H.out)
  have C2 := Lib.hid (istream_any _ ys w K.out)
  have hm1 : xs.length ≤ cap := hr.1
  have hm2 : ys.length ≤ cap2 := hr2.1
  have hn1 := hr.2.2.1
  have hn2 := hr2.2.2.1
  clear hr hr2
  cases h1 : isS xs with
  | false =>
    rw [(app1 h1).1, (app1 h1).2]
    rw [h1] at C1
    clear h1
    go_enter Try.func52, Try.ntmps52
    go_wp2_with fail
    refine C1.out.mono ?_
    rintro e w' ⟨rfl, rfl⟩
    go_wp2_with fail
    go_ret2
    exact ⟨_, rfl, own_nil _ _, Below.refl _ _⟩
  | true =>
    have hl1 := isS_len h1
    cases h2 : isS ys with
    | false =>
      rw [(app2 h2).1, (app2 h2).2]
      rw [h1] at C1
      rw [h2] at C2
      clear h1 h2
      go_enter Try.func52, Try.ntmps52
      go_wp2_with fail
      refine C1.out.mono ?_
      rintro e w' ⟨rfl, rfl⟩
      go_wp2_with fail
      refine C2.out.mono ?_
      rintro e w' ⟨rfl, rfl⟩
      go_wp2_with fail
      go_ret2
      exact ⟨_, rfl, own_nil _ _, Below.refl _ _⟩
    | true =>
      have hl2 := isS_len h2
      by_cases hs : xs.length + ys.length ≤ 400
      · rw [(app4 h1 h2 hs).1, (app4 h1 h2 hs).2]
        rw [h1] at C1
        rw [h2] at C2
        clear h1 h2
        obtain ⟨i0, hi, hz0, hz1, hz2⟩ := info_parts info
        have d1 : decide ((400 : Int) < (xs.length : Int) + (ys.length : Int)) = false := decide_eq_false (by omega)
        have hcast : ((xs.length : Int) + (ys.length : Int)) = ((xs.length + ys.length : Nat) : Int) := by omega
        have HC := Lib.hid hcast
        clear hcast
        go_enter Try.func52, Try.ntmps52
        go_wp2_with fail
        refine C1.out.mono ?_
        rintro e w' ⟨rfl, rfl⟩
        go_wp2_with fail
        refine C2.out.mono ?_
        rintro e w' ⟨rfl, rfl⟩
        go_wp2_with (at_make; refine wpList_make_full _ rfl _ _ 26 rfl w.heap.size 3 i0 (.int .i64 0) 1 Try.underlying26 hi hz0 hz1 _ _ _ _ (xs.length + ys.length) rfl rfl HC.out HC.out ?b2 ?b3 ?b4 ?_)
        case b2 => rw [hz2]; omega
        case b3 => unfold maxLen; omega
        case b4 => exact Nat.le_refl _
        intro w1 hown hgrow
        have hb := (Below.refl w.heap.size w).grown hgrow (Nat.le_refl _) (by simp)
        have HO := Lib.hid (own_heap hown)
        have HZ := Lib.hid hown.1
        clear hgrow hi hz0 hz1 hz2 hown C1 C2
        obtain ⟨Z, hZ⟩ : ∃ Z, Z = (madeCells #[Value.int IntKind.i64 0] (xs.length + ys.length)).toList := ⟨_, rfl⟩
        obtain ⟨A, hA⟩ : ∃ A, A = vals xs := ⟨_, rfl⟩
        obtain ⟨D, hD⟩ : ∃ D, D = vals ys := ⟨_, rfl⟩
        rw [← hZ] at HO HZ
        have HA := Lib.hid hA
        have HD := Lib.hid hD
        have hAl : A.length = xs.length := by rw [hA, vals_len]
        have hDl : D.length = ys.length := by rw [hD, vals_len]
        have HAl := Lib.hid hAl
        have HDl := Lib.hid hDl
        clear hZ hA hD hAl hDl
        go_wp2_with (with_reducible refine wpList_copy_splice rfl (.tmp 29) (.tmp 30) 26 26 rfl 3 Try.underlying26 size1 (some ⟨w.heap.size, 0, none⟩) a (xs.length + ys.length) (xs.length + ys.length) xs.length cap rfl rfl w.heap.size 0 Z 3 HO.out A ?c1 ?c2 ?c3 ?c4 w.heap.size w hb (Nat.le_refl _) ?_)
        case c1 => rw [HAl.out]; simp
        case c2 => intro hp; first | exact copy_src (H.out.below hb) HA.out hp | exact ⟨rfl, copy_src (H.out.below hb) HA.out hp⟩
        case c3 => have := HZ.out; have := HAl.out; omega
        case c4 => rw [HA.out]; exact vals_one xs
        intro w2 HG hb2
        clear HO hb
        by_cases hy : ys.length = 0
        · obtain rfl : ys = [] := List.eq_nil_of_length_eq_zero hy
          have e : splice Z 0 A = A := splice_all (by have := HZ.out; rw [HAl.out, this]; simp)
          rw [e, HA.out] at HG
          clear hy e hs hl2 HC d1 HDl HD hn2 hm2 K HZ HA HAl
          have hd0 : decide ((0 : Int) ≤ (xs.length : Int)) = true := decide_eq_true (by omega)
          go_wp2_with (with_reducible refine wpList_copy_nothing rfl (.tmp 35) (.tmp 36) 26 26 rfl 3 Try.underlying26 size1 _ _ _ _ _ _ rfl rfl (by simp) ?_)
          go_ret2
          refine ⟨_, rfl, ?_, hb2⟩
          rw [List.append_nil]
          exact heap_own HG.out (vals_len xs) (Nat.le_refl _) (by unfold maxLen; omega)
        · have hne : ¬ xs.length + ys.length = xs.length := by omega
          go_wp2_with (with_reducible refine wpList_copy_splice rfl (.tmp 35) (.tmp 36) 26 26 rfl 3 Try.underlying26 size1 (some ⟨w.heap.size, xs.length, none⟩) a2 ys.length ys.length ys.length cap2 rfl rfl w.heap.size xs.length (splice Z 0 A) 3 HG.out D ?d1 ?d2 ?d3 ?d4 w.heap.size w hb2 (Nat.le_refl _) ?_)
          case d1 => rw [HDl.out]; simp
          case d2 => intro hp; first | exact copy_src (K.out.below hb2) HD.out hp | exact ⟨rfl, copy_src (K.out.below hb2) HD.out hp⟩
          case d3 => rw [length_splice _ _ _ (by have := HZ.out; have := HAl.out; omega)]; have := HZ.out; have := HDl.out; omega
          case d4 => rw [HD.out]; exact vals_one ys
          intro w3 HG3 hb3
          clear HG hb2
          have e : splice (splice Z 0 A) xs.length D = vals (xs ++ ys) := by
            rw [← HAl.out, splice_two (by have := HZ.out; have := HDl.out; have := HAl.out; omega), HA.out, HD.out, vals_app]
          rw [e] at HG3
          clear e HZ HA HD HAl HDl H K
          go_wp2_with fail
          go_ret2
          refine ⟨_, rfl, ?_, hb3⟩
          unfold Own
          rw [List.length_append]
          exact heap_own HG3.out (by rw [vals_len, List.length_append]) (Nat.le_refl _) (by unfold maxLen; omega)
      · rw [(app3 hs).1, (app3 hs).2]
        rw [h1] at C1
        rw [h2] at C2
        clear h1 h2
        have d1 : decide ((400 : Int) < (xs.length : Int) + (ys.length : Int)) = true := decide_eq_true (by omega)
        go_enter Try.func52, Try.ntmps52
        go_wp2_with fail
        refine C1.out.mono ?_
        rintro e w' ⟨rfl, rfl⟩
        go_wp2_with fail
        refine C2.out.mono ?_
        rintro e w' ⟨rfl, rfl⟩
        go_wp2_with fail
        go_ret2
        exact ⟨_, rfl, own_nil _ _, Below.refl _ _⟩
end Go.Proofs.Ytkeoefbkeommhaa
