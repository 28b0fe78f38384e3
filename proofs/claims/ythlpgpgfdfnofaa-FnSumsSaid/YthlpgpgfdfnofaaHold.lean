/-
  What HoldStream leaves, in the program and in its model. No statement of the seat is proved here.
-/
import Derived.Test.YthlpgpgfdfnofaaOwn
import Derived.Test.YthlpgpgfdfnofaaStream
import Derived.OpenShut
namespace Go.Proofs.Ythlpgpgfdfnofaa
open Go.RowKit

def hl (xs : List Int) (K : Nat) : List Int := xs.flatMap fun x => List.replicate K x
theorem hl_len (xs : List Int) (K : Nat) : (hl xs K).length = xs.length * K := by
  induction xs with
  | nil => simp [hl]
  | cons x xs ih =>
    have e : hl (x :: xs) K = List.replicate K x ++ hl xs K := rfl
    rw [e, List.length_append, ih, List.length_replicate, List.length_cons, Nat.succ_mul]
    omega
theorem hl_snoc (xs : List Int) (x : Int) (K : Nat) : hl (xs ++ [x]) K = hl xs K ++ List.replicate K x := by simp [hl, List.flatMap_append]
theorem hl_step {xs : List Int} {k : Nat} {x : Int} {K : Nat} (h : k < xs.length) (hx : x = xs.getD k 0) : hl (xs.take (k + 1)) K = hl (xs.take k) K ++ List.replicate K x := by
  rw [take_snoc' h, ← hx, hl_snoc]
theorem hl_tok {xs : List Int} {K : Nat} (h : isS xs = true) : (hl xs K).all isTok = true := by
  rw [List.all_eq_true]
  intro x hx
  simp only [hl, List.mem_flatMap] at hx
  obtain ⟨y, hy, hx⟩ := hx
  rw [List.eq_of_mem_replicate hx]
  exact isS_all h y hy
theorem hl_isS {xs : List Int} {K : Nat} (h : isS xs = true) : isS (hl xs K) = decide (xs.length * K ≤ 400) := by
  unfold isS
  rw [hl_tok h, hl_len]
  simp
def holdB (xs : List Int) (m : Int) : Bool := isS xs && decide (0 ≤ m) && decide (xs.length * m.toNat ≤ 400)
def holdStreamR0 (xs : List Int) (m : Int) : List Int := if holdB xs m then hl xs m.toNat else []
theorem holdStream_len0 (xs : List Int) (m : Int) : (holdStreamR0 xs m).length ≤ 400 := by
  unfold holdStreamR0
  split
  · rename_i h; unfold holdB at h; simp at h; rw [hl_len]; exact h.2
  · simp
theorem hold1 {xs : List Int} {m : Int} (h : isS xs = false) : holdStreamR0 xs m = [] ∧ holdB xs m = false := by simp [holdStreamR0, holdB, h]
theorem hold2 {xs : List Int} {m : Int} (h : ¬ 0 ≤ m) : holdStreamR0 xs m = [] ∧ holdB xs m = false := by simp [holdStreamR0, holdB, h]
theorem hold3 {xs : List Int} {K : Nat} (h : ¬ xs.length * K ≤ 400) : holdStreamR0 xs (K : Int) = [] ∧ holdB xs (K : Int) = false := by
  have e : holdB xs (K : Int) = false := by simp only [holdB, Int.toNat_natCast]; simp [h]
  exact ⟨by unfold holdStreamR0; rw [e]; rfl, e⟩
theorem hold4 {xs : List Int} {K : Nat} (h1 : isS xs = true) (h : xs.length * K ≤ 400) : holdStreamR0 xs (K : Int) = hl xs K ∧ holdB xs (K : Int) = true := by
  have e : holdB xs (K : Int) = true := by simp only [holdB, Int.toNat_natCast]; simp [h, h1]
  exact ⟨by unfold holdStreamR0; rw [e]; simp, e⟩
theorem rep_snoc (L : List Int) (x : Int) (j : Nat) : L ++ List.replicate (j + 1) x = (L ++ List.replicate j x) ++ [x] := by
  rw [List.replicate_succ', List.append_assoc]

set_option maxRecDepth 100000 in
set_option maxHeartbeats 3200000 in
theorem ihold_any (v : Value) (xs : List Int) (m : Int) (w : World) (h : Sl w v xs) (hm : (Lit.int .i64 m).wf = true) :
    Calls Try.prog 28 #[v, .int .i64 m] w fun e w' => ∃ r, e = .returned (.tuple #[r, .bool (holdB xs m)]) ∧ Own w.heap.size w' r (holdStreamR0 xs m) ∧ Below w.heap.size w w' := by
  obtain ⟨a, cap, rfl, hr⟩ := h
  have C1 := Lib.hid (istream_any _ xs w ⟨a, cap, rfl, hr⟩)
  have hmb := bounds_i64 hm
  cases h1 : isS xs with
  | false =>
    rw [(hold1 (m := m) h1).1, (hold1 (m := m) h1).2]
    rw [h1] at C1
    clear h1 hr
    go_enter Try.func28, Try.ntmps28
    go_wp2_with fail
    refine C1.out.mono ?_
    rintro e w' ⟨rfl, rfl⟩
    go_wp2_with fail
    go_ret2
    exact ⟨_, rfl, own_nil _ _, Below.refl _ _⟩
  | true =>
    have hl1 := isS_len h1
    have HS1 := Lib.hid h1
    by_cases hm0 : 0 ≤ m
    · obtain ⟨K, rfl⟩ : ∃ K : Nat, m = (K : Int) := ⟨m.toNat, by omega⟩
      have dm : decide ((K : Int) < 0) = false := decide_eq_false (by omega)
      clear hm
      by_cases hKn : xs.length * K ≤ 400
      · skip
        rw [(hold4 h1 hKn).1, (hold4 h1 hKn).2]
        rw [h1] at C1
        have hc := hr.2.2.2
        obtain ⟨i0, hi, hz0, hz1, hz2⟩ := info_parts info
        clear h1 hr
        have hK : xs.length = 0 ∨ K ≤ 400 := by
          rcases Nat.eq_zero_or_pos xs.length with h | h
          · exact .inl h
          · exact .inr (Nat.le_trans (Nat.le_mul_of_pos_left K h) hKn)
        by_cases hn0 : 0 < xs.length
        · have d1 : decide ((0 : Int) < (xs.length : Int)) = true := decide_eq_true (by omega)
          have d2 : decide ((400 : Int) / (xs.length : Int) < (K : Int)) = false := decide_eq_false (by
            rw [Int.not_lt, Int.le_ediv_iff_mul_le (by omega)]
            have : ((xs.length * K : Nat) : Int) = (xs.length : Int) * (K : Int) := by simp
            rw [Int.mul_comm]; omega)
          obtain ⟨n, hn⟩ : ∃ n, xs.length = n := ⟨_, rfl⟩
          rw [hn] at C1 hl1 hc d1 d2 hn0 hK ⊢
          have HN := Lib.hid hn
          clear hn hKn HS1
          have ho0 : Own w.heap.size w (.slice none 0 0) (hl (xs.take 0) K) := World.ownsRow_nil _ _ _ _
          have hb0 := Below.refl w.heap.size w
          go_enter Try.func28, Try.ntmps28
          go_wp2_with fail
          refine C1.out.mono ?_
          rintro e w' ⟨rfl, rfl⟩
          clear C1
          go_wp2_with fail
          go_loopw [6, 30] (fun o i wr => ∃ k : Nat, k ≤ n ∧ i = .int .i64 k ∧ Own w.heap.size wr o (hl (xs.take k) K) ∧ Below w.heap.size w wr) (fun _ i _ => n - (intOf i).toNat)
          case atStart => exact ⟨0, Nat.zero_le _, rfl, ho0, hb0⟩
          case round =>
            clear ho0 hb0
            obtain ⟨k, hk, rfl, HO, hb⟩ := hrel
            by_cases hlt : k < n
            · rcases hc with rfl | ⟨b, off, rfl, hbl, hcell⟩
              · exact absurd hlt (by have := HN.out; simp at this; omega)
              · obtain ⟨x, hx⟩ : ∃ x, x = xs.getD k 0 := ⟨_, rfl⟩
                have hck := (hb.cell (p := ⟨b, off + k, none⟩) hbl).trans (hcell k hlt)
                rw [← hx] at hck
                have ES := Lib.hid (hl_step (K := K) (xs := xs) (by rw [HN.out]; exact hlt) hx)
                have hK4 : K ≤ 400 := by rcases hK with h | h; omega; exact h
                have EL := hl_len (xs.take k) K
                have hLk0 : (hl (xs.take k) K).length ≤ 160000 := by
                  rw [EL]
                  exact Nat.le_trans (Nat.mul_le_mul (show (xs.take k).length ≤ 400 by have := List.length_take_le k xs; omega) hK4) (by omega)
                obtain ⟨M, hM⟩ : ∃ M, hl (xs.take k) K = M := ⟨_, rfl⟩
                rw [hM] at HO ES hLk0
                clear hx hcell EL hM
                go_wp2_with fail
                obtain ⟨wo, rfl⟩ : ∃ wo : World, wo = wr := ⟨_, rfl⟩
                go_loopw [6, 35] (fun o i wr => ∃ j : Nat, j ≤ K ∧ i = .int .i64 j ∧ Own w.heap.size wr o (M ++ List.replicate j x) ∧ Below w.heap.size w wr) (fun _ i _ => K - (intOf i).toNat)
                case atStart => exact ⟨0, Nat.zero_le _, rfl, by simpa using HO, hb⟩
                case round =>
                  clear HO hb hck
                  obtain ⟨j, hj, rfl, HO, hb⟩ := hrel
                  obtain ⟨L, hL⟩ : ∃ L, M ++ List.replicate j x = L := ⟨_, rfl⟩
                  have hLk : L.length ≤ 160400 := by rw [← hL]; simp; omega
                  have HL := Lib.hid hL
                  rw [hL] at HO
                  by_cases hjK : j < K
                  · have hsz := hb.size
                    have HO' : Hid (Own w.heap.size wr _ L) := HO
                    have HB := Lib.hid hb
                    clear hL HO hb
                    go_wp2_with (at_builtin; refine wpList_append_own_at _ rfl _ _ 26 rfl w.heap.size 3 i0 (.int .i64 0) 1 8 Try.underlying26 hi hz0 hz1 hz2 rfl (by decide) _ _ _ rfl (World.ownsRow.alloc HO'.out _) ⟨wr.heap.size, 0, none⟩ 1 1 [.int .i64 x] rfl rfl (one_src _ _) (one_one _) ?c3 ?c4 ?c5 ?_)
                    case c3 => unfold maxLen; omega
                    case c4 => omega
                    case c5 => first | omega | (simp; omega)
                    intro v' w1 hown hgrow _ _
                    have R := Lib.hid (app_rel HB.out hsz (Nat.le_refl _) HO'.out hown hgrow)
                    clear hown hgrow HO' HB
                    go_wp2_with fail
                    go_roundw
                    case rel => exact ⟨j + 1, by omega, by go_num, by rw [rep_snoc, HL.out]; exact R.out.1, R.out.2⟩
                    case measure => simp [intOf]; omega
                  · obtain rfl : j = K := by omega
                    have HO2 : Hid (Own w.heap.size wr _ L) := HO
                    have HB := Lib.hid hb
                    clear hL HO hb
                    go_wp2_with fail
                    go_roundw
                    case rel => exact ⟨k + 1, by omega, by go_num, by rw [ES.out, HL.out]; exact HO2.out, HB.out⟩
                    case measure => simp [intOf]; omega
            · have e : xs.take k = xs := List.take_of_length_le (by rw [HN.out]; omega)
              rw [e] at HO
              clear e
              go_wp2_with fail
              go_ret2
              exact ⟨_, rfl, HO, hb⟩
        · have d1 : decide ((0 : Int) < (xs.length : Int)) = false := decide_eq_false (by omega)
          obtain ⟨n, hn⟩ : ∃ n, xs.length = n := ⟨_, rfl⟩
          rw [hn] at C1 hl1 hc d1 hn0 hK ⊢
          have HN := Lib.hid hn
          clear hn hKn HS1
          have ho0 : Own w.heap.size w (.slice none 0 0) (hl (xs.take 0) K) := World.ownsRow_nil _ _ _ _
          have hb0 := Below.refl w.heap.size w
          go_enter Try.func28, Try.ntmps28
          go_wp2_with fail
          refine C1.out.mono ?_
          rintro e w' ⟨rfl, rfl⟩
          clear C1
          go_wp2_with fail
          go_loopw [6, 30] (fun o i wr => ∃ k : Nat, k ≤ n ∧ i = .int .i64 k ∧ Own w.heap.size wr o (hl (xs.take k) K) ∧ Below w.heap.size w wr) (fun _ i _ => n - (intOf i).toNat)
          case atStart => exact ⟨0, Nat.zero_le _, rfl, ho0, hb0⟩
          case round =>
            clear ho0 hb0
            obtain ⟨k, hk, rfl, HO, hb⟩ := hrel
            by_cases hlt : k < n
            · exact absurd hlt (by omega)
            · have e : xs.take k = xs := List.take_of_length_le (by rw [HN.out]; omega)
              rw [e] at HO
              clear e
              go_wp2_with fail
              go_ret2
              exact ⟨_, rfl, HO, hb⟩
      · rw [(hold3 hKn).1, (hold3 hKn).2]
        rw [h1] at C1
        clear h1 hr
        have hn0 : 0 < xs.length := by rcases Nat.eq_zero_or_pos xs.length with h | h; rw [h] at hKn; simp at hKn; exact h
        have d1 : decide ((0 : Int) < (xs.length : Int)) = true := decide_eq_true (by omega)
        have d2 : decide ((400 : Int) / (xs.length : Int) < (K : Int)) = true := decide_eq_true (by
          rw [Int.ediv_lt_iff_lt_mul (by omega)]
          have : ((xs.length * K : Nat) : Int) = (xs.length : Int) * (K : Int) := by simp
          rw [Int.mul_comm]; omega)
        obtain ⟨n, hn⟩ : ∃ n, xs.length = n := ⟨_, rfl⟩
        rw [hn] at C1 hl1 d1 d2 hn0 ⊢
        clear hn hKn HS1
        go_enter Try.func28, Try.ntmps28
        go_wp2_with fail
        refine C1.out.mono ?_
        rintro e w' ⟨rfl, rfl⟩
        go_wp2_with fail
        go_ret2
        exact ⟨_, rfl, own_nil _ _, Below.refl _ _⟩
    · rw [(hold2 (xs := xs) hm0).1, (hold2 (xs := xs) hm0).2]
      rw [h1] at C1
      clear h1 hr
      have dm : decide (m < 0) = true := decide_eq_true (by omega)
      go_enter Try.func28, Try.ntmps28
      go_wp2_with fail
      refine C1.out.mono ?_
      rintro e w' ⟨rfl, rfl⟩
      go_wp2_with fail
      go_ret2
      exact ⟨_, rfl, own_nil _ _, Below.refl _ _⟩

end Go.Proofs.Ythlpgpgfdfnofaa
