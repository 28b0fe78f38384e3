/-
  What the model's ParseStream answers. No statement of the seat is proved here.
-/
import Derived.Test.YthlpgpgfdfnofabDoorCut3
namespace Go.Proofs.YthlpgpgfdfnofabDoor
open Go.RowKit

theorem cut_words_le (l : List UInt8) : ∀ w ∈ (cut l).1, w.length ≤ l.length := by
  induction hm : l.length generalizing l with
  | zero => rw [List.eq_nil_of_length_eq_zero hm]; simp [cut]
  | succ n ih =>
    rcases List.eq_nil_or_concat l with e | ⟨m, c, e⟩
    · rw [e] at hm; simp at hm
    · rw [List.concat_eq_append] at e
      subst e
      have hml : m.length = n := by simp at hm; omega
      have hi := ih m hml
      have hb := cut_bound m
      intro w hw
      by_cases hc : c = 44
      · subst hc
        rw [cut_comma] at hw
        simp only [words, List.mem_append, List.mem_singleton] at hw
        rcases hw with hw | rfl
        · have := hi w hw; omega
        · omega
      · rw [cut_other _ hc] at hw
        have := hi w hw; omega
theorem words_le {l : List UInt8} : ∀ w ∈ words l, w.length ≤ l.length := by
  intro w hw
  simp only [words, List.mem_append, List.mem_singleton] at hw
  rcases hw with hw | rfl
  · exact cut_words_le l w hw
  · have := cut_bound l; omega
theorem words_len (l : List UInt8) : (words l).length ≤ l.length + 1 := by
  have := cut_bound l
  simp [words]; omega
theorem words_at {W : List (List UInt8)} {k : Nat} (h : k < W.length) : W.take (k + 1) = W.take k ++ [W[k]] := List.take_succ_eq_append_getElem h
theorem words_split {W : List (List UInt8)} {k : Nat} (h : k < W.length) : W = W.take k ++ W[k] :: W.drop (k + 1) := by
  rw [List.getElem_cons_drop, List.take_append_drop]
theorem strV_list (l : List UInt8) : (⟨l.toArray⟩ : ByteArray).data.toList = l := rfl
theorem row_at {w : World} {lo n g cap : Nat} {W : List (List UInt8)} {k : Nat} (h : w.ownsRow lo 9 1 (.slice (some ⟨g, 0, none⟩) n cap) n (SW W)) (hk : k < W.length) :
    w.cell? ⟨g, k, none⟩ = some (.string ⟨(W[k]).toArray⟩) := by
  have := World.ownsRow.cells h (g := g) rfl k (strV W[k]) (by simp [SW, hk])
  rwa [Addr.add_lit, Nat.zero_add] at this
theorem appS_other {wr w1 : World} {lo n : Nat} {v v' u : Value} {L : List Value} {o : Obj} (hu : wr.ownsRow lo 9 1 u n L) (hap : Apart u v)
    (hg : (wr.alloc o).grownBy w1 v.ownBlock) (hat : v'.ownBlock = v.ownBlock ∨ v'.ownBlock = some (wr.heap.size + 1)) : w1.ownsRow lo 9 1 u n L ∧ Apart u v' := by
  refine ⟨World.ownsRow.kept (World.ownsRow.alloc hu o) hg hap, ?_⟩
  rcases hat with hat | hat
  · unfold Apart; rw [hat]; exact hap
  · cases h : u.ownBlock with
    | none => exact .inl h
    | some k =>
      have := (World.ownsRow.lt hu k h).2
      right; rw [hat, h]; intro e; simp at e; omega
theorem row_shape {w : World} {lo n : Nat} {v : Value} {L : List Value} (h : w.ownsRow lo 9 1 v n L) (hn : 0 < n) : ∃ g cap, v = .slice (some ⟨g, 0, none⟩) n cap := by
  rcases h.2 with ⟨_, h0⟩ | ⟨g, cap, cur, rfl, _⟩
  · omega
  · exact ⟨g, cap, rfl⟩

theorem words_pos (l : List UInt8) : 1 ≤ (words l).length := by simp [words]
theorem ps_read (l : List UInt8) (xs : List Int) (h46 : l ≠ [46]) (h : (words l).mapM rd = some xs) : psR l = if isS xs then some xs else none := by
  unfold psR; rw [if_neg h46, h]
theorem ps_none (l : List UInt8) (k : Nat) (u : List UInt8) (h46 : l ≠ [46]) (hu : (words l)[k]? = some u) (h : rd u = none) : psR l = none := by
  obtain ⟨hk, rfl⟩ := List.getElem?_eq_some_iff.1 hu
  unfold psR; rw [if_neg h46, words_split hk, mapM_none h]

set_option maxRecDepth 100000 in
set_option maxHeartbeats 3200000 in
theorem sparse_any (s : ByteArray) (w : World) (hs : s.size ≤ 1048576) :
    Calls Tryd.prog 9 #[.string s] w fun e w' => ∃ r, e = .returned (.tuple #[r, .bool (psR s.data.toList).isSome]) ∧ Own w.heap.size w' r ((psR s.data.toList).getD []) ∧ Below w.heap.size w w' := by
  by_cases h46 : s.data.toList = [46]
  · have hd : (s.toList == [46]) = true := by rw [ByteArray.toList_eq, h46]; rfl
    have hp : psR s.data.toList = some [] := by unfold psR; exact if_pos h46
    rw [hp]
    have hb0 := (Below.refl w.heap.size w).alloc (Nat.le_refl _) (.cells #[] 3)
    clear h46 hp
    go_enter Tryd.func9, Tryd.ntmps9
    go_wp2_with fail
    go_ret2
    exact ⟨_, rfl, lit0 w, hb0⟩
  · have hd : (s.toList == [46]) = false := by rw [ByteArray.toList_eq, beq_eq_false_iff_ne]; exact h46
    have C1 := Lib.hid (fun w => split_any s w (by omega))
    obtain ⟨l, hl⟩ : ∃ l, s.data.toList = l := ⟨_, rfl⟩
    have hls : l.length ≤ 1048576 := by rw [← hl, s_len]; exact hs
    rw [hl] at h46 C1 ⊢
    have hn := words_len l
    have hp := words_pos l
    have HW := Lib.hid (show ∀ w ∈ words l, w.length ≤ l.length from words_le)
    have HR := Lib.hid (ps_read l)
    have HN := Lib.hid (ps_none l)
    have H46 := Lib.hid h46
    obtain ⟨P, hP⟩ : ∃ P, psR l = P := ⟨_, rfl⟩
    rw [hP] at HR HN ⊢
    obtain ⟨W, hW⟩ : ∃ W, words l = W := ⟨_, rfl⟩
    rw [hW] at C1 hn hp HW
    simp only [hW] at HR HN
    obtain ⟨n, hnn⟩ : ∃ n, W.length = n := ⟨_, rfl⟩
    rw [hnn] at C1 hn hp
    obtain ⟨i0, hi, hz0, hz1, hz2⟩ := info_parts info
    have HE := Lib.hid hnn
    have ho0 : Own w.heap.size (w.alloc (.cells #[] 3)) (.slice (some ⟨w.heap.size, 0, none⟩) 0 0) [] := lit0 w
    have hb0 := (Below.refl w.heap.size w).alloc (Nat.le_refl _) (.cells #[] 3)
    have hsz0 : (w.alloc (.cells #[] 3)).heap.size = w.heap.size + 1 := by simp
    clear h46 hP hW hnn hl
    go_enter Tryd.func9, Tryd.ntmps9
    go_wp2_with fail
    refine (C1.out _).mono ?_
    clear C1
    rintro e w1 ⟨r, rfl, HO1, hb1⟩
    have ho1 := ho0.below hb1
    have hap : Apart r (.slice (some ⟨w.heap.size, 0, none⟩) 0 0) := by
      cases h : r.ownBlock with
      | none => exact .inl h
      | some g =>
        have := (World.ownsRow.lt HO1 g h).1
        right; rw [h]; intro e; simp [Value.ownBlock] at e; omega
    have hb01 := hb0.trans (hb1.mono hb0.size)
    rw [hsz0] at HO1
    clear ho0 hb0 hsz0 hb1
    obtain ⟨g, cap, rfl⟩ := row_shape HO1 (by omega)
    have HO1 := Lib.hid HO1
    have ho1 := Lib.hid ho1
    have hap := Lib.hid hap
    have hb01 := Lib.hid hb01
    go_wp2_with fail
    go_loopw [4, 16] (fun o i wr => ∃ (k : Nat) (xs : List Int), k ≤ n ∧ i = .int .i64 k ∧ xs.length = k ∧ Hid ((W.take k).mapM rd = some xs) ∧ Hid (Own w.heap.size wr o xs) ∧ Hid (Below w.heap.size w wr) ∧ Hid (wr.ownsRow (w.heap.size + 1) 9 1 (.slice (some ⟨g, 0, none⟩) n cap) n (SW W)) ∧ Hid (Apart (.slice (some ⟨g, 0, none⟩) n cap) o)) (fun _ i _ => n - (intOf i).toNat)
    case atStart => exact ⟨0, [], Nat.zero_le _, rfl, rfl, Lib.hid (by simp), ho1, hb01, HO1, hap⟩
    case round =>
      clear ho1 hb01 HO1 hap
      obtain ⟨k, xs, hk, rfl, hxl, HM, HO, HB, HRW, HAP⟩ := hrel
      have hsz := HB.out.size
      by_cases hlt : k < n
      · have hkW : k < W.length := by rw [HE.out]; exact hlt
        have hck := row_at HRW.out hkW
        have hwl : (⟨(W[k]).toArray⟩ : ByteArray).size ≤ 1048577 := by
          have := HW.out W[k] (List.getElem_mem _)
          show (W[k]).toArray.size ≤ _
          rw [List.size_toArray]; omega
        have CR := Lib.hid (fun w => readAny ⟨(W[k]).toArray⟩ w hwl)
        clear hwl
        rw [strV_list] at CR
        have EM := words_at hkW
        have HNk := HN.out k _ H46.out (List.getElem?_eq_getElem hkW)
        obtain ⟨u, hu⟩ : ∃ u, W[k] = u := ⟨_, rfl⟩
        rw [hu] at hck CR EM HNk
        clear hu
        cases hr : rd u with
        | none =>
          have HP := Lib.hid (HNk hr)
          rw [hr] at CR
          clear HNk EM hr
          go_wp2_with (go_at_call 19; refine (CR.out _).mono ?_; rintro e w' ⟨rfl, rfl⟩)
          go_ret2
          exact ⟨_, by rw [HP.out]; rfl, by rw [HP.out]; exact own_nil _ _, HB.out⟩
        | some m =>
          have hbm := (rd_some hr).2
          have EM2 := Lib.hid (show (W.take (k + 1)).mapM rd = some (xs ++ [m]) by rw [EM]; exact mapM_snoc HM.out hr)
          rw [hr] at CR
          clear HNk EM hr
          go_wp2_with (first | (go_at_call 19; refine (CR.out _).mono ?_; rintro e w' ⟨rfl, rfl⟩) | (at_builtin; refine wpList_append_own_at _ rfl _ _ 22 rfl w.heap.size 3 i0 (.int .i64 0) 1 8 Tryd.underlying22 hi hz0 hz1 hz2 rfl (by decide) _ _ _ rfl (World.ownsRow.alloc HO.out _) ⟨wr.heap.size, 0, none⟩ 1 1 [.int .i64 m] rfl rfl (one_src _ _) (one_one _) ?c3 ?c4 ?c5 ?_))
          case c3 => unfold maxLen; omega
          case c4 => omega
          case c5 => first | omega | (simp; omega)
          intro v' w2 hown hgrow _ hat
          rw [← hxl] at hown
          have R := app_rel HB.out hsz (Nat.le_refl _) HO.out hown hgrow
          have RO := appS_other HRW.out HAP.out hgrow hat
          have R1 := Lib.hid R.1
          have R2 := Lib.hid R.2
          have R3 := Lib.hid RO.1
          have R4 := Lib.hid RO.2
          clear hown hgrow hat R RO HO HB HRW HAP HM
          go_wp2_with fail
          go_roundw
          case rel => exact ⟨k + 1, xs ++ [m], by omega, by go_num, by simp; omega, EM2, R1, R2, R3, R4⟩
          case measure => simp [intOf]; omega
      · obtain rfl : k = n := by omega
        have hM := HM.out
        rw [List.take_of_length_le (by rw [HE.out]; exact Nat.le_refl _)] at hM
        have HP := Lib.hid (HR.out xs H46.out hM)
        have CS := Lib.hid (fun v w h => sstream_any v xs w h)
        clear hM HM
        have HS := Lib.hid (Own.sl HO.out)
        cases hs1 : isS xs with
        | true =>
          rw [hs1] at CS
          have HI := Lib.hid hs1
          clear hs1
          go_wp2_with (go_at_call 13; refine (CS.out _ _ HS.out).mono ?_; rintro e w' ⟨rfl, rfl⟩)
          go_ret2
          exact ⟨_, by rw [HP.out, if_pos HI.out]; rfl, by rw [HP.out, if_pos HI.out]; exact HO.out, HB.out⟩
        | false =>
          rw [hs1] at CS
          have HI := Lib.hid hs1
          clear hs1
          go_wp2_with (go_at_call 13; refine (CS.out _ _ HS.out).mono ?_; rintro e w' ⟨rfl, rfl⟩)
          go_ret2
          exact ⟨_, by rw [HP.out, if_neg (by rw [HI.out]; simp)]; rfl, by rw [HP.out, if_neg (by rw [HI.out]; simp)]; exact own_nil _ _, HB.out⟩

end Go.Proofs.YthlpgpgfdfnofabDoor
