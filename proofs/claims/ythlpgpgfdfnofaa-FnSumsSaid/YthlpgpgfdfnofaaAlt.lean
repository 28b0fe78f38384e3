/-
  What AlternateStreams leaves, in the program and in its model. No statement of the seat is proved here.
-/
import Derived.Test.YthlpgpgfdfnofaaMeet
namespace Go.Proofs.Ythlpgpgfdfnofaa
open Go.RowKit

def cap4 : Nat := 400
def frm (xs ys : List Int) (i : Nat) : List Int := if i % 2 = 1 then ys else xs
def altN (xs ys : List Int) : Nat → Nat → Nat
  | 0, i => i
  | f + 1, i => if i / 2 < (frm xs ys i).length then altN xs ys f (i + 1) else i
def altL (xs ys : List Int) (k : Nat) : List Int := (List.range k).map fun i => (frm xs ys i).getD (i / 2) 0
def altAt (xs ys : List Int) (k : Nat) : Nat := altN xs ys (400 - k) k
def alternateStreamsR0 (xs ys : List Int) : List Int := if isS xs && isS ys then altL xs ys (altAt xs ys 0) else []
theorem altN_le (xs ys : List Int) : ∀ f i, altN xs ys f i ≤ f + i
  | 0, i => by simp [altN]
  | f + 1, i => by
    have := altN_le xs ys f (i + 1)
    unfold altN
    split <;> omega
theorem altL_len (xs ys : List Int) (k : Nat) : (altL xs ys k).length = k := by simp [altL]
theorem altL_succ (xs ys : List Int) (k : Nat) : altL xs ys (k + 1) = altL xs ys k ++ [(frm xs ys k).getD (k / 2) 0] := by simp [altL, List.range_succ]
theorem altN_step {xs ys : List Int} {k : Nat} (h : k < 400) (hl : k / 2 < (frm xs ys k).length) : altAt xs ys (k + 1) = altAt xs ys k := by
  unfold altAt
  rw [show 400 - k = (400 - (k + 1)) + 1 by omega]
  conv => rhs; unfold altN
  rw [if_pos hl]
theorem altN_stop {xs ys : List Int} {k : Nat} (h : k < 400) (hl : ¬ k / 2 < (frm xs ys k).length) : altAt xs ys k = k := by
  unfold altAt
  rw [show 400 - k = (400 - (k + 1)) + 1 by omega]
  unfold altN
  rw [if_neg hl]
theorem altN_full {xs ys : List Int} {k : Nat} (h : k = 400) : altAt xs ys k = k := by
  subst h; simp [altAt, altN]
theorem frm_odd {xs ys : List Int} {k : Nat} (h : k % 2 = 1) : frm xs ys k = ys := by simp [frm, h]
theorem frm_even {xs ys : List Int} {k : Nat} (h : ¬ k % 2 = 1) : frm xs ys k = xs := by simp [frm, h]
theorem alternateStreams_len0 (xs ys : List Int) : (alternateStreamsR0 xs ys).length ≤ 400 := by
  unfold alternateStreamsR0
  split
  · rw [altL_len]; have := altN_le xs ys (400 - 0) 0; unfold altAt; omega
  · simp
theorem alt1 {xs ys : List Int} (h : isS xs = false) : alternateStreamsR0 xs ys = [] := by simp [alternateStreamsR0, h]
theorem alt2 {xs ys : List Int} (h : isS ys = false) : alternateStreamsR0 xs ys = [] := by simp [alternateStreamsR0, h]
theorem alt3 {xs ys : List Int} (h : isS xs = true) (k : isS ys = true) : alternateStreamsR0 xs ys = altL xs ys (altAt xs ys 0) := by simp [alternateStreamsR0, h, k]
set_option maxRecDepth 100000 in
set_option maxHeartbeats 1600000 in
theorem ialt_any (v : Value) (xs : List Int) (u : Value) (ys : List Int) (w : World) (h : Sl w v xs) (k : Sl w u ys) :
    Calls Try.prog 31 #[v, u] w fun e w' => ∃ r, e = .returned r ∧ Own w.heap.size w' r (alternateStreamsR0 xs ys) ∧ Below w.heap.size w w' := by
  obtain ⟨a, cap, rfl, hr⟩ := h
  obtain ⟨a2, cap2, rfl, hr2⟩ := k
  have C1 := Lib.hid (istream_any _ xs w ⟨a, cap, rfl, hr⟩)
  have C2 := Lib.hid (istream_any _ ys w ⟨a2, cap2, rfl, hr2⟩)
  cases h1 : isS xs with
  | false =>
    rw [alt1 h1]
    rw [h1] at C1
    clear h1 hr hr2
    go_enter Try.func31, Try.ntmps31
    go_wp2_with fail
    refine C1.out.mono ?_
    rintro e w' ⟨rfl, rfl⟩
    go_wp2_with fail
    go_ret
    exact ⟨_, rfl, own_nil _ _, Below.refl _ _⟩
  | true =>
    cases h2 : isS ys with
    | false =>
      rw [alt2 h2]
      rw [h1] at C1
      rw [h2] at C2
      clear h1 h2 hr hr2
      go_enter Try.func31, Try.ntmps31
      go_wp2_with fail
      refine C1.out.mono ?_
      rintro e w' ⟨rfl, rfl⟩
      go_wp2_with fail
      refine C2.out.mono ?_
      rintro e w' ⟨rfl, rfl⟩
      go_wp2_with fail
      go_ret
      exact ⟨_, rfl, own_nil _ _, Below.refl _ _⟩
    | true =>
      rw [alt3 h1 h2]
      have hl1 := isS_len h1
      have hl2 := isS_len h2
      obtain ⟨N, hN0⟩ : ∃ N, altAt xs ys 0 = N := ⟨_, rfl⟩
      rw [hN0]
      have HN0 := Lib.hid hN0
      clear hN0
      rw [h1] at C1
      rw [h2] at C2
      have hc := hr.2.2.2
      have hc2 := hr2.2.2.2
      have ho0 : Own w.heap.size w (.slice none 0 0) (altL xs ys 0) := World.ownsRow_nil _ _ _ _
      have hb0 := Below.refl w.heap.size w
      obtain ⟨i0, hi, hz0, hz1, hz2⟩ := info_parts info
      clear h1 h2 hr hr2
      go_enter Try.func31, Try.ntmps31
      go_wp2_with fail
      refine C1.out.mono ?_
      rintro e w' ⟨rfl, rfl⟩
      go_wp2_with fail
      refine C2.out.mono ?_
      rintro e w' ⟨rfl, rfl⟩
      go_wp2_with fail
      clear C1 C2
      go_loopw [5] (fun o wr => ∃ k : Nat, k ≤ 400 ∧ (k + 1) / 2 ≤ xs.length ∧ k / 2 ≤ ys.length ∧ Hid (altAt xs ys k = N) ∧ Own w.heap.size wr o (altL xs ys k) ∧ Below w.heap.size w wr) (fun o _ => cap4 - (lenOf o))
      case atStart => exact ⟨0, by omega, by omega, by omega, HN0.out, ho0, hb0⟩
      case round =>
        clear ho0 hb0
        obtain ⟨k, hk, hx1, hx2, hN, HO, hb⟩ := hrel
        obtain ⟨ao, co, hv⟩ := HO.shape
        rw [altL_len] at hv
        subst hv
        obtain ⟨L, hL⟩ : ∃ L, L = altL xs ys k := ⟨_, rfl⟩
        rw [← hL] at HO
        have hLl : L.length = k := by rw [hL, altL_len]
        have HL := Lib.hid hL
        have HLl := Lib.hid hLl
        have hLk : L.length ≤ 400 := by omega
        replace HO := Lib.hid HO
        clear hL hLl
        have HX1 := Lib.hid hx1
        have HX2 := Lib.hid hx2
        clear hx1 hx2
        by_cases hk4 : k < 400
        · by_cases hp : k % 2 = 1
          · skip
            have hp2 : ((k : Int) % 2 == 1) = true := by simp; omega
            have HF := Lib.hid (frm_odd (xs := xs) (ys := ys) hp)
            have hpk := hp
            clear hp
            by_cases hlt : k / 2 < ys.length
            · rcases hc2 with rfl | ⟨b, off, rfl, hbl, hcell⟩
              · exact absurd hlt (by simp)
              · obtain ⟨x, hx⟩ : ∃ x, x = ys.getD (k / 2) 0 := ⟨_, rfl⟩
                have hck := (hb.cell (p := ⟨b, off + k / 2, none⟩) hbl).trans (hcell (k / 2) hlt)
                rw [← hx] at hck
                have d2 : ((k : Int) / 2 == (ys.length : Int)) = false := by have := HX1.out; have := HX2.out; simp; omega
                have HP := Lib.hid hpk
                have HX := Lib.hid hx
                have HB := Lib.hid hb
                have hsz := hb.size
                clear hx hcell hpk hb
                go_wp2_with (at_builtin; refine wpList_append_own_at _ rfl _ _ 26 rfl w.heap.size 3 i0 (.int .i64 0) 1 8 Try.underlying26 hi hz0 hz1 hz2 rfl (by decide) _ _ _ rfl (World.ownsRow.alloc HO.out _) ⟨wr.heap.size, 0, none⟩ 1 1 [.int .i64 x] rfl rfl (one_src _ _) (one_one _) ?c3 ?c4 ?c5 ?_)
                case c3 => unfold maxLen; omega
                case c4 => omega
                case c5 => first | omega | (simp; omega)
                intro v' w1 hown hgrow _ _
                have R := app_rel HB.out hsz (Nat.le_refl _) HO.out hown hgrow
                have HR := Lib.hid R
                clear hown hgrow HO HB R
                go_wp2_with fail
                go_roundw
                case rel =>
                  have hp9 := HP.out
                  have hx1 := HX1.out
                  have hx2 := HX2.out
                  exact ⟨k + 1, by omega, by omega, by omega, (altN_step (by omega) (by rw [HF.out]; omega)).trans hN.out, by rw [altL_succ, HF.out, ← HX.out, ← HL.out]; exact HR.out.1, HR.out.2⟩
                case measure =>
                have hm := lenOf_own HR.out.1
                rw [List.length_append, HLl.out] at hm
                rw [hm]
                show 400 - (k + 1) < 400 - k
                omega
            · have d2 : ((k : Int) / 2 == (ys.length : Int)) = true := by have := HX1.out; have := HX2.out; simp; omega
              have HP := Lib.hid hpk
              clear hpk
              go_wp2_with fail
              go_ret
              refine ⟨_, rfl, ?_, hb⟩
              have e := hN.out
              rw [altN_stop (by omega) (by rw [HF.out]; exact hlt)] at e
              rw [← e, ← HL.out]
              exact HO.out

          · skip
            have hp2 : ((k : Int) % 2 == 1) = false := by simp; omega
            have HF := Lib.hid (frm_even (xs := xs) (ys := ys) hp)
            have hpk := hp
            clear hp
            by_cases hlt : k / 2 < xs.length
            · rcases hc with rfl | ⟨b, off, rfl, hbl, hcell⟩
              · exact absurd hlt (by simp)
              · obtain ⟨x, hx⟩ : ∃ x, x = xs.getD (k / 2) 0 := ⟨_, rfl⟩
                have hck := (hb.cell (p := ⟨b, off + k / 2, none⟩) hbl).trans (hcell (k / 2) hlt)
                rw [← hx] at hck
                have d2 : ((k : Int) / 2 == (xs.length : Int)) = false := by have := HX1.out; have := HX2.out; simp; omega
                have HP := Lib.hid hpk
                have HX := Lib.hid hx
                have HB := Lib.hid hb
                have hsz := hb.size
                clear hx hcell hpk hb
                go_wp2_with (at_builtin; refine wpList_append_own_at _ rfl _ _ 26 rfl w.heap.size 3 i0 (.int .i64 0) 1 8 Try.underlying26 hi hz0 hz1 hz2 rfl (by decide) _ _ _ rfl (World.ownsRow.alloc HO.out _) ⟨wr.heap.size, 0, none⟩ 1 1 [.int .i64 x] rfl rfl (one_src _ _) (one_one _) ?c3 ?c4 ?c5 ?_)
                case c3 => unfold maxLen; omega
                case c4 => omega
                case c5 => first | omega | (simp; omega)
                intro v' w1 hown hgrow _ _
                have R := app_rel HB.out hsz (Nat.le_refl _) HO.out hown hgrow
                have HR := Lib.hid R
                clear hown hgrow HO HB R
                go_wp2_with fail
                go_roundw
                case rel =>
                  have hp9 := HP.out
                  have hx1 := HX1.out
                  have hx2 := HX2.out
                  exact ⟨k + 1, by omega, by omega, by omega, (altN_step (by omega) (by rw [HF.out]; omega)).trans hN.out, by rw [altL_succ, HF.out, ← HX.out, ← HL.out]; exact HR.out.1, HR.out.2⟩
                case measure =>
                have hm := lenOf_own HR.out.1
                rw [List.length_append, HLl.out] at hm
                rw [hm]
                show 400 - (k + 1) < 400 - k
                omega
            · have d2 : ((k : Int) / 2 == (xs.length : Int)) = true := by have := HX1.out; have := HX2.out; simp; omega
              have HP := Lib.hid hpk
              clear hpk
              go_wp2_with fail
              go_ret
              refine ⟨_, rfl, ?_, hb⟩
              have e := hN.out
              rw [altN_stop (by omega) (by rw [HF.out]; exact hlt)] at e
              rw [← e, ← HL.out]
              exact HO.out

        · skip
          go_wp2_with fail
          go_ret
          refine ⟨_, rfl, ?_, hb⟩
          have e := hN.out
          rw [altN_full (by omega)] at e
          rw [← e, ← HL.out]
          exact HO.out

set_option maxRecDepth 100000 in
set_option maxHeartbeats 1600000 in
theorem salt_any (v : Value) (xs : List Int) (u : Value) (ys : List Int) (w : World) (h : Sl w v xs) (k : Sl w u ys) :
    Calls Try.prog 43 #[v, u] w fun e w' => ∃ r, e = .returned r ∧ Own w.heap.size w' r (alternateStreamsR0 xs ys) ∧ Below w.heap.size w w' := by
  obtain ⟨a, cap, rfl, hr⟩ := h
  obtain ⟨a2, cap2, rfl, hr2⟩ := k
  have C1 := Lib.hid (sstream_any _ xs w ⟨a, cap, rfl, hr⟩)
  have C2 := Lib.hid (sstream_any _ ys w ⟨a2, cap2, rfl, hr2⟩)
  cases h1 : isS xs with
  | false =>
    rw [alt1 h1]
    rw [h1] at C1
    clear h1 hr hr2
    go_enter Try.func43, Try.ntmps43
    go_wp2_with fail
    refine C1.out.mono ?_
    rintro e w' ⟨rfl, rfl⟩
    go_wp2_with fail
    go_ret
    exact ⟨_, rfl, own_nil _ _, Below.refl _ _⟩
  | true =>
    cases h2 : isS ys with
    | false =>
      rw [alt2 h2]
      rw [h1] at C1
      rw [h2] at C2
      clear h1 h2 hr hr2
      go_enter Try.func43, Try.ntmps43
      go_wp2_with fail
      refine C1.out.mono ?_
      rintro e w' ⟨rfl, rfl⟩
      go_wp2_with fail
      refine C2.out.mono ?_
      rintro e w' ⟨rfl, rfl⟩
      go_wp2_with fail
      go_ret
      exact ⟨_, rfl, own_nil _ _, Below.refl _ _⟩
    | true =>
      rw [alt3 h1 h2]
      have hl1 := isS_len h1
      have hl2 := isS_len h2
      obtain ⟨N, hN0⟩ : ∃ N, altAt xs ys 0 = N := ⟨_, rfl⟩
      rw [hN0]
      have HN0 := Lib.hid hN0
      clear hN0
      rw [h1] at C1
      rw [h2] at C2
      have hc := hr.2.2.2
      have hc2 := hr2.2.2.2
      have ho0 : Own w.heap.size (w.alloc (.cells #[] 3)) (.slice (some ⟨w.heap.size, 0, none⟩) 0 0) (altL xs ys 0) := lit0 w
      have hb0 := (Below.refl w.heap.size w).alloc (Nat.le_refl _) (.cells #[] 3)
      obtain ⟨i0, hi, hz0, hz1, hz2⟩ := info_parts info
      clear h1 h2 hr hr2
      go_enter Try.func43, Try.ntmps43
      go_wp2_with fail
      refine C1.out.mono ?_
      rintro e w' ⟨rfl, rfl⟩
      go_wp2_with fail
      refine C2.out.mono ?_
      rintro e w' ⟨rfl, rfl⟩
      go_wp2_with fail
      clear C1 C2
      go_loopw [5, 6] (fun o i wr => ∃ k : Nat, k ≤ 400 ∧ i = .int .i64 k ∧ (k + 1) / 2 ≤ xs.length ∧ k / 2 ≤ ys.length ∧ Hid (altAt xs ys k = N) ∧ Own w.heap.size wr o (altL xs ys k) ∧ Below w.heap.size w wr) (fun _ i _ => cap4 - (intOf i).toNat)
      case atStart => exact ⟨0, by omega, rfl, by omega, by omega, HN0.out, ho0, hb0⟩
      case round =>
        clear ho0 hb0
        obtain ⟨k, hk, rfl, hx1, hx2, hN, HO, hb⟩ := hrel
        obtain ⟨ao, co, hv⟩ := HO.shape
        rw [altL_len] at hv
        subst hv
        obtain ⟨L, hL⟩ : ∃ L, L = altL xs ys k := ⟨_, rfl⟩
        rw [← hL] at HO
        have hLl : L.length = k := by rw [hL, altL_len]
        have HL := Lib.hid hL
        have HLl := Lib.hid hLl
        have hLk : L.length ≤ 400 := by omega
        replace HO := Lib.hid HO
        clear hL hLl
        have HX1 := Lib.hid hx1
        have HX2 := Lib.hid hx2
        clear hx1 hx2
        by_cases hk4 : k < 400
        · by_cases hp : k % 2 = 1
          · skip
            have hp2 : ((k : Int) % 2 == 1) = true := by simp; omega
            have HF := Lib.hid (frm_odd (xs := xs) (ys := ys) hp)
            have hpk := hp
            clear hp
            by_cases hlt : k / 2 < ys.length
            · rcases hc2 with rfl | ⟨b, off, rfl, hbl, hcell⟩
              · exact absurd hlt (by simp)
              · obtain ⟨x, hx⟩ : ∃ x, x = ys.getD (k / 2) 0 := ⟨_, rfl⟩
                have hck := (hb.cell (p := ⟨b, off + k / 2, none⟩) hbl).trans (hcell (k / 2) hlt)
                rw [← hx] at hck
                have d2 : ¬ (ys.length : Int) ≤ (k : Int) / 2 := by have := HX1.out; have := HX2.out; omega
                have HP := Lib.hid hpk
                have HX := Lib.hid hx
                have HB := Lib.hid hb
                have hsz := hb.size
                clear hx hcell hpk hb
                go_wp2_with (at_builtin; refine wpList_append_own_at _ rfl _ _ 26 rfl w.heap.size 3 i0 (.int .i64 0) 1 8 Try.underlying26 hi hz0 hz1 hz2 rfl (by decide) _ _ _ rfl (World.ownsRow.alloc HO.out _) ⟨wr.heap.size, 0, none⟩ 1 1 [.int .i64 x] rfl rfl (one_src _ _) (one_one _) ?c3 ?c4 ?c5 ?_)
                case c3 => unfold maxLen; omega
                case c4 => omega
                case c5 => first | omega | (simp; omega)
                intro v' w1 hown hgrow _ _
                have R := app_rel HB.out hsz (Nat.le_refl _) HO.out hown hgrow
                have HR := Lib.hid R
                clear hown hgrow HO HB R
                go_wp2_with fail
                go_roundw
                case rel =>
                  have hp9 := HP.out
                  have hx1 := HX1.out
                  have hx2 := HX2.out
                  exact ⟨k + 1, by omega, by go_num, by omega, by omega, (altN_step (by omega) (by rw [HF.out]; omega)).trans hN.out, by rw [altL_succ, HF.out, ← HX.out, ← HL.out]; exact HR.out.1, HR.out.2⟩
                case measure => show 400 - ((k : Int) + 1).toNat < 400 - (k : Int).toNat; omega
            · have d2 : (ys.length : Int) ≤ (k : Int) / 2 := by have := HX1.out; have := HX2.out; omega
              have HP := Lib.hid hpk
              clear hpk
              go_wp2_with fail
              go_ret
              refine ⟨_, rfl, ?_, hb⟩
              have e := hN.out
              rw [altN_stop (by omega) (by rw [HF.out]; exact hlt)] at e
              rw [← e, ← HL.out]
              exact HO.out

          · skip
            have hp2 : ((k : Int) % 2 == 1) = false := by simp; omega
            have HF := Lib.hid (frm_even (xs := xs) (ys := ys) hp)
            have hpk := hp
            clear hp
            by_cases hlt : k / 2 < xs.length
            · rcases hc with rfl | ⟨b, off, rfl, hbl, hcell⟩
              · exact absurd hlt (by simp)
              · obtain ⟨x, hx⟩ : ∃ x, x = xs.getD (k / 2) 0 := ⟨_, rfl⟩
                have hck := (hb.cell (p := ⟨b, off + k / 2, none⟩) hbl).trans (hcell (k / 2) hlt)
                rw [← hx] at hck
                have d2 : ¬ (xs.length : Int) ≤ (k : Int) / 2 := by have := HX1.out; have := HX2.out; omega
                have HP := Lib.hid hpk
                have HX := Lib.hid hx
                have HB := Lib.hid hb
                have hsz := hb.size
                clear hx hcell hpk hb
                go_wp2_with (at_builtin; refine wpList_append_own_at _ rfl _ _ 26 rfl w.heap.size 3 i0 (.int .i64 0) 1 8 Try.underlying26 hi hz0 hz1 hz2 rfl (by decide) _ _ _ rfl (World.ownsRow.alloc HO.out _) ⟨wr.heap.size, 0, none⟩ 1 1 [.int .i64 x] rfl rfl (one_src _ _) (one_one _) ?c3 ?c4 ?c5 ?_)
                case c3 => unfold maxLen; omega
                case c4 => omega
                case c5 => first | omega | (simp; omega)
                intro v' w1 hown hgrow _ _
                have R := app_rel HB.out hsz (Nat.le_refl _) HO.out hown hgrow
                have HR := Lib.hid R
                clear hown hgrow HO HB R
                go_wp2_with fail
                go_roundw
                case rel =>
                  have hp9 := HP.out
                  have hx1 := HX1.out
                  have hx2 := HX2.out
                  exact ⟨k + 1, by omega, by go_num, by omega, by omega, (altN_step (by omega) (by rw [HF.out]; omega)).trans hN.out, by rw [altL_succ, HF.out, ← HX.out, ← HL.out]; exact HR.out.1, HR.out.2⟩
                case measure => show 400 - ((k : Int) + 1).toNat < 400 - (k : Int).toNat; omega
            · have d2 : (xs.length : Int) ≤ (k : Int) / 2 := by have := HX1.out; have := HX2.out; omega
              have HP := Lib.hid hpk
              clear hpk
              go_wp2_with fail
              go_ret
              refine ⟨_, rfl, ?_, hb⟩
              have e := hN.out
              rw [altN_stop (by omega) (by rw [HF.out]; exact hlt)] at e
              rw [← e, ← HL.out]
              exact HO.out

        · skip
          go_wp2_with fail
          go_ret
          refine ⟨_, rfl, ?_, hb⟩
          have e := hN.out
          rw [altN_full (by omega)] at e
          rw [← e, ← HL.out]
          exact HO.out

end Go.Proofs.Ythlpgpgfdfnofaa
