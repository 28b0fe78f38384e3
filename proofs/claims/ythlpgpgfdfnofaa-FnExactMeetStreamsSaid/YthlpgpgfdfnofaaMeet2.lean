/-
  What the model's MeetStreams leaves. No statement of the seat is proved here.
-/
import Derived.Test.YthlpgpgfdfnofaaMeet
namespace Go.Proofs.Ythlpgpgfdfnofaa
open Go.RowKit

set_option maxHeartbeats 800000 in
theorem smeet_any (v : Value) (xs : List Int) (u : Value) (ys : List Int) (w : World) (h : Sl w v xs) (k : Sl w u ys) :
    Calls Try.prog 37 #[v, u] w fun e w' => ∃ r, e = .returned r ∧ Own w.heap.size w' r (meetStreamsR0 xs ys) ∧ Below w.heap.size w w' := by
  obtain ⟨a, cap, rfl, hr⟩ := h
  obtain ⟨a2, cap2, rfl, hr2⟩ := k
  have H := Lib.hid (show Sl w (.slice a xs.length cap) xs from ⟨a, cap, rfl, hr⟩)
  have K := Lib.hid (show Sl w (.slice a2 ys.length cap2) ys from ⟨a2, cap2, rfl, hr2⟩)
  have C1 := Lib.hid (sstream_any _ xs w H.out)
  have C2 := Lib.hid (sstream_any _ ys w K.out)
  cases h1 : isS xs with
  | false =>
    rw [meet1 h1]
    rw [h1] at C1
    clear h1 hr hr2
    go_enter Try.func37, Try.ntmps37
    go_wp2_with fail
    refine C1.out.mono ?_
    rintro e w' ⟨rfl, rfl⟩
    go_wp2_with fail
    go_ret
    exact ⟨_, rfl, own_nil _ _, Below.refl _ _⟩
  | true =>
    cases h2 : isS ys with
    | false =>
      rw [meet2 h2]
      rw [h1] at C1
      rw [h2] at C2
      clear h1 h2 hr hr2
      go_enter Try.func37, Try.ntmps37
      go_wp2_with fail
      refine C1.out.mono ?_
      rintro e w' ⟨rfl, rfl⟩
      go_wp2_with fail
      refine C2.out.mono ?_
      rintro e w' ⟨rfl, rfl⟩
      go_wp2_with fail
      go_ret
      exact ⟨_, rfl, own_nil _ _, Below.refl _ _⟩
    | true =>
      rw [meet3 h1 h2]
      have hl1 := isS_len h1
      have hl2 := isS_len h2
      rw [h1] at C1
      rw [h2] at C2
      have hc := hr.2.2.2
      have hc2 := hr2.2.2.2
      have hb0 := (Below.refl w.heap.size w).alloc (Nat.le_refl _) (.cells #[] 3)
      have ho0 : Own w.heap.size (w.alloc (.cells #[] 3)) (.slice (some ⟨w.heap.size, 0, none⟩) 0 0) [] := lit0 w
      obtain ⟨i0, hi, hz0, hz1, hz2⟩ := info_parts info
      clear h1 h2 hr hr2 H K
      go_enter Try.func37, Try.ntmps37
      go_wp2_with fail
      refine C1.out.mono ?_
      rintro e w' ⟨rfl, rfl⟩
      go_wp2_with fail
      refine C2.out.mono ?_
      rintro e w' ⟨rfl, rfl⟩
      go_wp2_with fail
      clear C1 C2
      go_loopw [5, 6] (fun o i wr => ∃ k : Nat, k ≤ xs.length ∧ k ≤ ys.length ∧ i = .int .i64 k ∧ Hid (xs.take k = ys.take k) ∧ Own w.heap.size wr o (xs.take k) ∧ Below w.heap.size w wr) (fun _ i _ => xs.length - (intOf i).toNat)
      case atStart => exact ⟨0, Nat.zero_le _, Nat.zero_le _, rfl, by simp [Hid], ho0, hb0⟩
      case round =>
        clear ho0 hb0
        rename_i o _ _
        obtain ⟨k, hk1, hk2, rfl, hE, HO, hb⟩ := hrel
        by_cases hlt : k < xs.length
        · by_cases hlt2 : k < ys.length
          · rcases hc with rfl | ⟨b, off, rfl, hbl, hcell⟩
            · exact absurd hlt (by simp)
            · rcases hc2 with rfl | ⟨b2, off2, rfl, hbl2, hcell2⟩
              · exact absurd hlt2 (by simp)
              · obtain ⟨x, hx⟩ : ∃ x, x = xs.getD k 0 := ⟨_, rfl⟩
                obtain ⟨y, hy⟩ : ∃ y, y = ys.getD k 0 := ⟨_, rfl⟩
                have hck := (hb.cell (p := ⟨b, off + k, none⟩) hbl).trans (hcell k hlt)
                have hck2 := (hb.cell (p := ⟨b2, off2 + k, none⟩) hbl2).trans (hcell2 k hlt2)
                rw [← hx] at hck
                rw [← hy] at hck2
                have HX := Lib.hid hx
                have HY := Lib.hid hy
                clear hx hy hcell hcell2
                have hsz := hb.size
                obtain ⟨L, hL⟩ : ∃ L, L = xs.take k := ⟨_, rfl⟩
                rw [← hL] at HO
                have hLl : L.length = k := by rw [hL]; simp; omega
                have HL := Lib.hid hL
                have HLl := Lib.hid hLl
                have hLk : L.length ≤ 400 := by omega
                clear hL hLl
                by_cases hxy : x = y
                · subst hxy
                  go_wp2_with fail
                  go_quiet (fail)
                  go_wp2_with (at_builtin; refine wpList_append_own_at _ rfl _ _ 26 rfl w.heap.size 3 i0 (.int .i64 0) 1 8 Try.underlying26 hi hz0 hz1 hz2 rfl (by decide) _ _ _ rfl (World.ownsRow.alloc (HO.below (below_drewN _ nq)) _) ⟨(wr.drewN nq).heap.size, 0, none⟩ 1 1 [.int .i64 x] rfl rfl (one_src _ _) (one_one _) ?c3 ?c4 ?c5 ?_)
                  case c3 => unfold maxLen; omega
                  case c4 => omega
                  case c5 => simp; omega
                  intro v' w1 hown hgrow _ _
                  have R := app_rel (Below.toDraw hb nq) (by simpa using hsz) (Nat.le_refl _) (HO.below (below_drewN _ nq)) hown hgrow
                  clear hown hgrow HO hb
                  go_wp2_with fail
                  go_roundw
                  case rel => exact ⟨k + 1, by omega, by omega, by go_num, take_step hlt hlt2 HX.out HY.out hE.out, by rw [take_snoc' hlt, ← HX.out, ← HL.out]; exact R.1, R.2⟩
                  case measure => simp [intOf]; omega
                · go_wp2_with fail
                  go_quiet (fail)
                  go_wp2_with fail
                  go_ret
                  refine ⟨_, rfl, ?_, Below.toDraw hb nq⟩
                  rw [cpn_of k xs ys hE.out hk1 hk2 (.inr (.inr (by rw [← HX.out, ← HY.out]; exact hxy))), ← HL.out]
                  exact HO.below (below_drewN _ nq)
          · have d1 : decide ((k : Int) < (xs.length : Int)) = true := decide_eq_true (by omega)
            have d2 : decide ((k : Int) < (ys.length : Int)) = false := decide_eq_false (by omega)
            go_wp2_with fail
            go_ret
            refine ⟨_, rfl, ?_, hb⟩
            rw [cpn_of k xs ys hE.out hk1 hk2 (.inr (.inl (by omega)))]
            exact HO
        · have d1 : decide ((k : Int) < (xs.length : Int)) = false := decide_eq_false (by omega)
          go_wp2_with fail
          go_ret
          refine ⟨_, rfl, ?_, hb⟩
          rw [cpn_of k xs ys hE.out hk1 hk2 (.inl (by omega))]
          exact HO

end Go.Proofs.Ythlpgpgfdfnofaa
