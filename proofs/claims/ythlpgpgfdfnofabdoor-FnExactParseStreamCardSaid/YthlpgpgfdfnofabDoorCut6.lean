/-
  What the program's ParseStream answers. No statement of the seat is proved here.
-/
import Derived.Test.YthlpgpgfdfnofabDoorCut5
namespace Go.Proofs.YthlpgpgfdfnofabDoor
open Go.RowKit

theorem isS_nil : isS [] = true := rfl
theorem isS_snoc {xs : List Int} {n : Int} (h : isS xs = true) (hl : ¬ xs.length = 400) (ht : isTok n = true) : isS (xs ++ [n]) = true := by
  have h1 := isS_len h
  have h2 := isS_all h
  unfold isS
  rw [Bool.and_eq_true, decide_eq_true_eq, List.all_eq_true]
  refine ⟨by simp; omega, fun x hx => ?_⟩
  rcases List.mem_append.1 hx with hx | hx
  · exact h2 x hx
  · simp only [List.mem_singleton] at hx; rw [hx]; exact ht
theorem fr_same {l m : List UInt8} {k : Nat} (h : l.take k = m.take k) : fr l k = fr m k := by unfold fr; rw [h]
theorem own_iter {w : World} {lo k : Nat} {v : Value} {xs : List Int} (h : Own lo w v xs) (hk : k < lo) (s : ByteArray) (p : Nat) : Own lo (w.iterAt k s p) v xs := ownsRow_iterAt h hk s p
theorem it_below {w w' : World} {k : Nat} {o : Obj} (h : w.heap[k]? = some o) (hb : Below w.heap.size w w') : w'.heap[k]? = some o := by
  rw [hb.block k (Array.getElem?_eq_some_iff.1 h).1]; exact h

/-- The whole that is ranged over. -/
def withComma (s : ByteArray) : ByteArray := s ++ ⟨#[44]⟩
theorem wc_size (s : ByteArray) : (withComma s).size = s.size + 1 := by simp [withComma, ByteArray.size_append]; rfl
theorem wc_list (s : ByteArray) : (withComma s).data.toList = s.data.toList ++ [44] := by simp [withComma, ByteArray.data_append]
theorem wc_take (s : ByteArray) (k : Nat) (h : k ≤ s.size) : (withComma s).data.toList.take k = s.data.toList.take k := by
  rw [wc_list, List.take_append_of_le_length (by rw [s_len]; exact h)]
theorem wc_word (s : ByteArray) (k : Nat) (h : k ≤ s.size) : (s.extract (fr (withComma s).data.toList k) k).data.toList = (cut ((withComma s).data.toList.take k)).2 := by
  rw [fr_same (wc_take s k h), wc_take s k h, ext_word s k h]
/-- At a comma of the whole: the words of the text go on with the word under way. -/
theorem wc_words (s : ByteArray) (k : Nat) (h : k < (withComma s).size) (hc : (withComma s)[k] = 44) :
    ∃ r, words s.data.toList = (cut ((withComma s).data.toList.take k)).1 ++ (cut ((withComma s).data.toList.take k)).2 :: r := by
  have hw : words s.data.toList = (cut (withComma s).data.toList).1 := by rw [wc_list, cut_comma]
  have e : (withComma s).data.toList = (withComma s).data.toList.take (k + 1) ++ (withComma s).data.toList.drop (k + 1) := (List.take_append_drop _ _).symm
  obtain ⟨r, hr⟩ := cut_ext ((withComma s).data.toList.take (k + 1)) ((withComma s).data.toList.drop (k + 1))
  rw [← e] at hr
  rw [s_take _ k h, hc, cut_comma] at hr
  exact ⟨r, by rw [hw, hr]; simp [words]⟩
theorem wc_end (s : ByteArray) : (cut ((withComma s).data.toList.take (withComma s).size)).1 = words s.data.toList := by
  rw [List.take_of_length_le (by rw [s_len]; exact Nat.le_refl _), wc_list, cut_comma]

theorem own_low {lo : Nat} {w : World} {v : Value} {xs : List Int} (h : Own (lo + 1) w v xs) : Own lo w v xs := h.mono (Nat.le_succ _)
theorem psI_bad {l : List UInt8} {P : Option (List Int)} {D r : List (List UInt8)} {U : List UInt8} {xs : List Int} (hr : words l = D ++ U :: r) (hM : D.mapM rd = some xs)
    (h : ∀ (ws r : List (List UInt8)) (u : List UInt8) (xs : List Int), l ≠ [46] → words l = ws ++ u :: r → ws.mapM rd = some xs → (badW u = true ∨ xs.length = 400) → P = none) (h46 : l ≠ [46]) :
    badW U = true ∨ xs.length = 400 → P = none := h D r U xs h46 hr hM

set_option maxRecDepth 100000 in
set_option maxHeartbeats 3200000 in
theorem iparse_any (s : ByteArray) (w : World) (hs : s.size ≤ 1048576) (hv : Vars w) :
    Calls Tryd.prog 10 #[.string s] w fun e w' => ∃ r, e = .returned (.tuple #[r, .bool (psR s.data.toList).isSome]) ∧ Own w.heap.size w' r ((psR s.data.toList).getD []) ∧ Below w.heap.size w w' := by
  by_cases h46 : s.data.toList = [46]
  · have hd : (s.toList == [46]) = true := by rw [ByteArray.toList_eq, h46]; rfl
    have hp : psR s.data.toList = some [] := by unfold psR; exact if_pos h46
    rw [hp]
    clear h46 hp hv
    go_enter Tryd.func10, Tryd.ntmps10
    go_wp2_with fail
    go_ret2
    exact ⟨_, rfl, own_nil _ _, Below.refl _ _⟩
  · have hd : (s.toList == [46]) = false := by rw [ByteArray.toList_eq, beq_eq_false_iff_ne]; exact h46
    have HV := Lib.hid hv
    have H46 := Lib.hid h46
    have HB0 := Lib.hid (Below.refl w.heap.size w)
    have HX : s ++ ⟨#[44]⟩ = withComma s := rfl
    have hts := wc_size s
    have HBAD := Lib.hid (fun ws r u xs => @psR_bad s.data.toList ws r u xs)
    have HRD := Lib.hid (ps_read s.data.toList)
    obtain ⟨i0, hi, hz0, hz1, hz2⟩ := info_parts info
    obtain ⟨P, hP⟩ : ∃ P, psR s.data.toList = P := ⟨_, rfl⟩
    simp only [hP] at HBAD HRD
    rw [hP]
    have HW1 := Lib.hid (wc_word s)
    have HW2 := Lib.hid (wc_words s)
    have HW3 := Lib.hid (wc_end s)
    obtain ⟨t, ht⟩ : ∃ t, withComma s = t := ⟨_, rfl⟩
    simp only [ht] at HX hts HW1 HW2 HW3
    have hadd : ((s.size + 1 : Nat) : Int) ≤ 9223372036854775807 := by omega
    clear hv h46 hP
    go_enter Tryd.func10, Tryd.ntmps10
    go_wp2_with fail
    have hit0 := World.iter_heap w t 0
    have HB1 := Lib.hid ((Below.refl w.heap.size w).alloc (Nat.le_refl _) (.stringIter t 0))
    have HV1 := Lib.hid (HV.out.below HB1.out)
    have HO1 := Lib.hid (own_nil (w.heap.size + 1) (w.iter t 0))
    have hc0 : cut (t.data.toList.take 0) = ([], []) := by simp [cut]
    have hf0 : fr t.data.toList 0 = 0 := by simp [fr]
    clear HB0
    go_loopw [4, 5] (fun o f wr => ∃ (pos : Nat) (xs : List Int), pos ≤ t.size ∧ wr.heap[w.heap.size]? = some (.stringIter t pos) ∧ f = .int .i64 (fr t.data.toList pos : Nat) ∧ xs.length ≤ 400 ∧ Hid (isS xs = true) ∧ Hid ((cut (t.data.toList.take pos)).1.mapM rd = some xs) ∧ Hid (Own (w.heap.size + 1) wr o xs) ∧ Hid (Below w.heap.size w wr) ∧ Hid (Vars wr)) (fun _ _ wr => t.size - wr.iterPos w.heap.size)
    case atStart => exact ⟨0, [], Nat.zero_le _, hit0, by rw [hf0]; rfl, by simp, Lib.hid isS_nil, Lib.hid (by rw [hc0]; rfl), HO1, HB1, HV1⟩
    case round =>
      clear HB1 HV1 HO1 hc0 hf0 hit0
      obtain ⟨pos, xs, hpt, hit, rfl, hxl, HS, HM, HO, HB, HVr⟩ := hrel
      have hwsz : w.heap.size < wr.heap.size := (Array.getElem?_eq_some_iff.1 hit).1
      by_cases hp : pos < t.size
      · have hnx : ∀ ty, (Instr.next (.pointer (some ⟨w.heap.size, 0, none⟩)) true ty).run Tryd.prog wr = _ := fun ty => Lib.run_next_any_at wr w.heap.size t pos ty hit hp
        have hit2 := Lib.hid (Lib.iterAt_heap wr w.heap.size t pos (pos + (Utf8.decode t pos).2) hit)
        have hip : wr.iterPos w.heap.size = pos := by simp [World.iterPos, hit]
        have hsz2 : (wr.iterAt w.heap.size t (pos + (Utf8.decode t pos).2)).heap.size = wr.heap.size := Lib.iterAt_size _ _ _ _
        have HO2 := Lib.hid (own_iter HO.out (Nat.lt_succ_self _) t (pos + (Utf8.decode t pos).2))
        have HB2 := Lib.hid (Lib.below_iterAt HB.out (Nat.le_refl w.heap.size) t (pos + (Utf8.decode t pos).2))
        have HV2 := Lib.hid (HV.out.below HB2.out)
        have hdl := decode_le t pos
        clear HO HB HVr hit
        rcases sign_at t pos hp with ⟨hch, hd1, hd2⟩ | ⟨hne, hd1, hd2, hno⟩
        · have hps : pos ≤ s.size := by omega
          have hfk := fr_le t.data.toList pos
          have EF := Lib.hid (fr_comma (s_take t pos hp) hch)
          have EC := cut_comma (t.data.toList.take pos)
          have ETK := s_take t pos hp
          rw [hch] at ETK
          rw [← ETK] at EC
          have eU := HW1.out pos hps
          obtain ⟨r, hr⟩ := HW2.out pos hp hch
          rw [hd2] at hit2 HO2 HB2 HV2 hnx hsz2
          have hd44 : (((Utf8.decode t pos).1 : Nat) : Int) = 44 := by rw [hd1]; rfl
          simp only [hd44] at hnx
          obtain ⟨C, hC⟩ : ∃ C, cut (t.data.toList.take pos) = C := ⟨_, rfl⟩
          unfold words at EC
          rw [hC] at EC eU HM hr
          obtain ⟨D, U⟩ := C
          simp only at EC eU HM hr
          have HBADk := Lib.hid (psI_bad hr HM.out HBAD.out H46.out)
          obtain ⟨f, hf⟩ : ∃ f, fr t.data.toList pos = f := ⟨_, rfl⟩
          rw [hf] at eU hfk ⊢
          obtain ⟨wq, hwq⟩ : ∃ wq, wr.iterAt w.heap.size t (pos + 1) = wq := ⟨_, rfl⟩
          simp only [hwq] at hnx hit2 HO2 HB2 HV2 hsz2
          have CP := pdec_any (s.extract f pos) wq (by rw [ByteArray.size_extract]; omega) HV2.out
          rw [eU] at CP
          have EC := Lib.hid EC
          obtain ⟨a, c, ho⟩ := HO2.out.shape
          subst ho
          have hip := Lib.hid hip
          have hwq1 := Lib.hid (show w.heap.size + 1 ≤ wq.heap.size by rw [hsz2]; exact hwsz)
          have HPS := Lib.hid hps
          have hts' := Lib.hid hts
          have hpt := Lib.hid hpt
          have hps2 : (pos : Int) ≤ (s.size : Int) := by omega
          clear hf hC hr eU ETK hch hd1 hd2 hd44 hdl hwq hsz2 hwsz hadd HX hd hts
          cases hb : badW U with
          | true =>
            have HP := Lib.hid (HBADk.out (.inl hb))
            cases hpd : pdc U with
            | none =>
              rw [hpd] at CP
              have CP := Lib.hid CP
              clear hb hpd
              go_wp2_with (go_at_call 20; refine CP.out.mono ?_; rintro e w2 ⟨rfl, hb2⟩)
              go_ret2
              exact ⟨_, by rw [HP.out]; rfl, by rw [HP.out]; exact own_nil _ _, HB2.out.trans (hb2.mono HB2.out.size)⟩
            | some m =>
              have hbt : isTok m = false := by unfold badW at hb; rw [hpd] at hb; simpa using hb
              have CT := Lib.hid (fun w => itok_any m w)
              rw [hbt] at CT
              rw [hpd] at CP
              have CP := Lib.hid CP
              clear hb hpd hbt
              go_wp2_with (first | (go_at_call 20; refine CP.out.mono ?_; rintro e w2 ⟨rfl, hb2⟩) | (go_at_call 21; refine (CT.out _).mono ?_; rintro e w' ⟨rfl, rfl⟩))
              go_ret2
              exact ⟨_, by rw [HP.out]; rfl, by rw [HP.out]; exact own_nil _ _, HB2.out.trans (hb2.mono HB2.out.size)⟩
          | false =>
            obtain ⟨m, hpd, hbt, hrd⟩ := rd_good hb
            have hmb := isTok_bd hbt
            have CT := Lib.hid (fun w => itok_any m w)
            rw [hbt] at CT
            rw [hpd] at CP
            have CP := Lib.hid CP
            by_cases h400 : (xs.length : Int) = 400
            · have HP := Lib.hid (HBADk.out (.inr (by omega)))
              clear hb hpd hbt hrd
              go_wp2_with (first | (go_at_call 20; refine CP.out.mono ?_; rintro e w2 ⟨rfl, hb2⟩) | (go_at_call 21; refine (CT.out _).mono ?_; rintro e w' ⟨rfl, rfl⟩))
              go_ret2
              exact ⟨_, by rw [HP.out]; rfl, by rw [HP.out]; exact own_nil _ _, HB2.out.trans (hb2.mono HB2.out.size)⟩
            · have HS2 := Lib.hid (isS_snoc HS.out (by omega) hbt)
              have HM2 := Lib.hid (mapM_snoc HM.out hrd)
              clear hb hpd hbt hrd
              go_wp2_with fail
              refine CP.out.mono ?_
              rintro e w2 ⟨rfl, hb2⟩
              have HO3 := Lib.hid (HO2.out.below hb2)
              have HB3 := HB2.out.trans (hb2.mono HB2.out.size)
              have hit3 := Lib.hid (it_below hit2.out hb2)
              have hw2 : w.heap.size + 1 ≤ w2.heap.size := Nat.le_trans hwq1.out hb2.size
              have HV3 := Lib.hid (HV2.out.below hb2)
              have HB3 := Lib.hid HB3
              clear hb2 HO2 HB2 HV2 hit2
              go_wp2_with (first | (go_at_call 21; refine (CT.out _).mono ?_; rintro e w' ⟨rfl, rfl⟩) | (at_builtin; refine wpList_append_own_at _ rfl _ _ 22 rfl (w.heap.size + 1) 3 i0 (.int .i64 0) 1 8 Tryd.underlying22 hi hz0 hz1 hz2 rfl (by decide) _ _ _ rfl (World.ownsRow.alloc HO3.out _) ⟨w2.heap.size, 0, none⟩ 1 1 [.int .i64 m] rfl rfl (one_src _ _) (one_one _) ?c3 ?c4 ?c5 ?_))
              case c3 => unfold maxLen; omega
              case c4 => omega
              case c5 => first | omega | (simp; omega)
              intro v' w3 hown hgrow _ _
              have R := app_rel (Below.refl (w.heap.size + 1) w2) hw2 (Nat.le_refl _) HO3.out hown hgrow
              have R1 := Lib.hid R.1
              have HB4 := Lib.hid (HB3.out.trans (R.2.mono (Nat.le_succ _)))
              have hit4 := Lib.hid (show w3.heap[w.heap.size]? = some (.stringIter t (pos + 1)) by rw [R.2.block w.heap.size (Nat.lt_succ_self _)]; exact hit3.out)
              have HV4 := Lib.hid (HV.out.below HB4.out)
              clear hown hgrow R HO3 HB3 hit3 HV3 hw2
              go_wp2_with fail
              go_roundw
              case rel => exact ⟨pos + 1, xs ++ [m], by have := hts'.out; have := HPS.out; omega, hit4.out, by rw [EF.out]; go_num, by simp; omega, HS2, Lib.hid (by rw [EC.out]; exact HM2.out), R1, HB4, HV4⟩
              case measure =>
                have h1 := hip.out
                have h2 := hts'.out
                have h3 := HPS.out
                simp only [World.iterPos] at h1
                simp only [World.iterPos, hit4.out]
                omega
        · have hne' : ¬ ((Utf8.decode t pos).1 : Int) = 44 := by omega
          have EF := Lib.hid (fr_run t pos _ hd2 hno)
          have EC := Lib.hid (take_run t pos _ hno)
          clear hno hne
          obtain ⟨q, hq⟩ : ∃ q, Utf8.decode t pos = q := ⟨_, rfl⟩
          rw [hq] at hit2 HO2 HB2 HV2 hnx hsz2 EF EC hd1 hd2 hne' hdl
          have hip := Lib.hid hip
          have hd1 := Lib.hid hd1
          have hd2 := Lib.hid hd2
          have hsz2 := Lib.hid hsz2
          have hts := Lib.hid hts
          have hpt := Lib.hid hpt
          have hwsz := Lib.hid hwsz
          clear hq HX hadd hd
          obtain ⟨q1, q2⟩ := q
          simp only at hnx hne' hdl
          obtain ⟨wq, hwq⟩ : ∃ wq, wr.iterAt w.heap.size t (pos + q2) = wq := ⟨_, rfl⟩
          simp only [hwq] at hnx hit2 HO2 HB2 HV2
          clear hwq hsz2
          go_wp2_with fail
          go_roundw
          case rel => exact ⟨pos + q2, xs, hd2.out, hit2.out, by rw [EF.out], hxl, HS, Lib.hid (by rw [EC.out]; exact HM.out), HO2, HB2, HV2⟩
          case measure =>
            have h1 := hip.out
            have h2 := hd1.out
            simp only [World.iterPos] at h1
            simp only [World.iterPos, hit2.out]
            omega
      · obtain rfl : pos = t.size := by omega
        have hnx : ∀ ty, (Instr.next (.pointer (some ⟨w.heap.size, 0, none⟩)) true ty).run Tryd.prog wr = _ := fun ty => Lib.run_next_end_at wr w.heap.size t t.size ty hit hp
        have hM := HM.out
        rw [HW3.out] at hM
        have HP := Lib.hid (HRD.out xs H46.out hM)
        clear hM
        go_wp2_with fail
        go_ret2
        exact ⟨_, by rw [HP.out, if_pos HS.out]; rfl, by rw [HP.out, if_pos HS.out]; exact own_low HO.out, HB.out⟩

end Go.Proofs.YthlpgpgfdfnofabDoor
