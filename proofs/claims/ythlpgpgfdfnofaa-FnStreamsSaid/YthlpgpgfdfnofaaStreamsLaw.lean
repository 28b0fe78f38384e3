/-
  The walk of the law FnStreams: it answers true and changes nothing that was there.
-/
import Derived.Test.YthlpgpgfdfnofaaMeet
import Derived.Test.YthlpgpgfdfnofaaAppend
import Derived.Test.YthlpgpgfdfnofaaDraw
import Derived.Test.YthlpgpgfdfnofaaFresh
namespace Go.Proofs.Ythlpgpgfdfnofaa
open Go.RowKit

theorem cpn_take : ∀ xs ys : List Int, xs.take (cpn xs ys) = ys.take (cpn xs ys)
  | [], _ => by simp [cpn]
  | _ :: _, [] => by simp [cpn]
  | x :: xs, y :: ys => by
    have := cpn_take xs ys
    unfold cpn
    split
    · rename_i h; simp [h, this]
    · simp
theorem cpn_comm : ∀ xs ys : List Int, cpn ys xs = cpn xs ys
  | [], [] => rfl
  | [], _ :: _ => by simp [cpn]
  | _ :: _, [] => by simp [cpn]
  | x :: xs, y :: ys => by
    have := cpn_comm xs ys
    unfold cpn
    by_cases h : x = y
    · simp [h, this]
    · rw [if_neg h, if_neg (fun e => h e.symm)]
theorem cpn_le2 (xs ys : List Int) : cpn xs ys ≤ ys.length := by rw [← cpn_comm]; exact cpn_le ys xs
theorem isS_take {xs : List Int} (h : isS xs = true) (n : Nat) : isS (xs.take n) = true :=
  isS_mk (by have := isS_len h; simp; omega) (fun x hx => isS_all h x (List.mem_of_mem_take hx))
theorem pref_mk {xs ys : List Int} (h : isS xs = true) (k : isS ys = true) (l : xs.length ≤ ys.length) (e : xs = ys.take xs.length) : prefB xs ys = true := by
  have : begB xs ys = true := decide_eq_true ⟨l, e⟩
  simp [prefB, h, k, this]
theorem pref_meet1 {xs ys : List Int} (h : isS xs = true) (k : isS ys = true) : prefB (meetStreamsR0 xs ys) xs = true := by
  rw [meet3 h k]
  have := cpn_le xs ys
  exact pref_mk (isS_take h _) h (by simp; omega) (by simp [Nat.min_eq_left this])
theorem pref_meet2 {xs ys : List Int} (h : isS xs = true) (k : isS ys = true) : prefB (meetStreamsR0 xs ys) ys = true := by
  rw [meet3 h k]
  have := cpn_le xs ys
  have := cpn_le2 xs ys
  exact pref_mk (isS_take h _) k (by simp; omega) (by simp only [List.length_take, Nat.min_eq_left (cpn_le xs ys)]; exact cpn_take xs ys)
theorem meet_comm {xs ys : List Int} (h : isS xs = true) (k : isS ys = true) : meetStreamsR0 ys xs = meetStreamsR0 xs ys := by
  rw [meet3 h k, meet3 k h, cpn_comm, cpn_take]
theorem meet_len {xs ys : List Int} (h : isS xs = true) (k : isS ys = true) : (meetStreamsR0 xs ys).length = cpn xs ys := by
  rw [meet3 h k]; have := cpn_le xs ys; simp; omega
theorem cpn_pref {xs ys : List Int} (h : prefB xs ys = true) : cpn xs ys = xs.length := by
  obtain ⟨_, _, hb⟩ := prefB_parts h
  obtain ⟨hl, e⟩ := begB_parts hb
  exact cpn_of xs.length xs ys (by rw [List.take_length]; exact e) (Nat.le_refl _) hl (.inl rfl)
theorem cpn_no1 {xs ys : List Int} (hx : isS xs = true) (hy : isS ys = true) (h : prefB xs ys = false) : cpn xs ys ≠ xs.length := by
  intro e
  have t := cpn_take xs ys
  have l := cpn_le2 xs ys
  rw [e] at t l
  rw [List.take_length] at t
  rw [pref_mk hx hy l t] at h
  cases h
theorem cpn_no2 {xs ys : List Int} (hx : isS xs = true) (hy : isS ys = true) (h : prefB ys xs = false) : cpn xs ys ≠ ys.length := by
  rw [← cpn_comm]; exact cpn_no1 hy hx h
theorem pref_app {xs ys : List Int} (h : isS xs = true) (k : isS (xs ++ ys) = true) : prefB xs (xs ++ ys) = true :=
  pref_mk h k (by simp) (by simp)
theorem pref_self {xs : List Int} (h : isS xs = true) : prefB xs xs = true := pref_mk h h (Nat.le_refl _) (by simp)

set_option maxRecDepth 100000 in
set_option maxHeartbeats 20000000 in
theorem fnStreams_core (a : Option Addr) (cap : Nat) (bs : List Int) (w : World) (h : Sb w (.slice a bs.length cap) bs) (hs : bs.length ≤ 1048576) :
    Calls Try.prog 4 #[.slice a bs.length cap] w fun e w' => e = .returned (.bool true) ∧ Below w.heap.size w w' := by
  have H := Lib.hid h
  have HS := Lib.hid hs
  obtain ⟨l, hl⟩ : ∃ l, l = bs.length := ⟨_, rfl⟩
  rw [← hl] at H hs ⊢
  clear h hl
  have hB := Below.refl w.heap.size w
  go_enter Try.func4, Try.ntmps4
  go_wp2_with fail
  refine (make_any _ bs 10 _ H.out HS.out (by omega) (by omega)).mono ?_
  rintro e w1 ⟨v, xs, rfl, o_a, hl1, hx, hb⟩
  have HX := Lib.hid (isS_mk (by omega) (fun x hh => List.all_eq_true.1 hx x hh))
  clear hx
  replace o_a := o_a.mono hB.size
  replace hB := hB.trans (hb.mono hB.size)
  clear hb
  obtain ⟨va, vc, rfl⟩ := o_a.shape
  go_wp2_with fail
  refine (fresh_any _ bs 3 _ (H.out.below hB) HS.out (by omega) (by omega)).mono ?_
  rintro e w1 ⟨fv, fs, rfl, hfs, hfl, hb⟩
  replace o_a := o_a.below hb
  replace hB := hB.trans (hb.mono hB.size)
  clear hb
  go_wp2_with fail
  refine (make_any _ fs 10 _ hfs (by omega) (by omega) (by omega)).mono ?_
  rintro e w1 ⟨u, zs, rfl, o_u, hl3, hz, hb⟩
  have HZ := Lib.hid (isS_mk (by omega) (fun x hh => List.all_eq_true.1 hz x hh))
  clear hz hfs
  replace o_a := o_a.below hb
  replace o_u := o_u.mono hB.size
  replace hB := hB.trans (hb.mono hB.size)
  clear hb
  go_wp2_with fail
  refine (at_any _ bs 1 _ (H.out.below hB) HS.out (by omega) (by omega)).mono ?_
  rintro e w' ⟨r1, rfl, a1, b1, rfl⟩
  by_cases hr : r1 % 2 = 0
  · go_wp2_with fail
    refine (at_any _ bs 2 _ ((H.out.below hB).below ((Below.refl _ _).alloc (Nat.le_refl _) _)) HS.out (by omega) (by omega)).mono ?_
    rintro e w' ⟨r2, rfl, a2, b2, rfl⟩
    have em := Int.emod_nonneg r2 (show (xs.length : Int) + 1 ≠ 0 by omega)
    have em2 := Int.emod_lt_of_pos r2 (show (0 : Int) < (xs.length : Int) + 1 by omega)
    have hjl : (r2 % ((xs.length : Int) + 1)).toNat ≤ xs.length := by omega
    have hvl : xs.length ≤ vc := by obtain ⟨_, _, hv, h1, _⟩ := o_a.sl; simp only [Value.slice.injEq] at hv; obtain ⟨_, _, rfl⟩ := hv; exact h1
    have hvm : vc ≤ 9223372036854775807 := by obtain ⟨_, _, hv, _, h1, _⟩ := o_a.sl; simp only [Value.slice.injEq] at hv; obtain ⟨_, _, rfl⟩ := hv; unfold maxLen at h1; omega
    have hb := (Below.refl w1.heap.size w1).alloc (Nat.le_refl _) (.cells #[] 3)
    have o_n : Own w1.heap.size (w1.alloc (.cells #[] 3)) (.slice (some ⟨w1.heap.size, 0, none⟩) 0 0) [] := lit0 w1
    have hsz := hB.size
    have HT := Lib.hid ((o_a.sl.take hjl).below hb)
    have HA := Lib.hid o_a
    have HU := Lib.hid o_u
    have HB := Lib.hid hB
    have HN0 := Lib.hid o_n
    have Hb0 := Lib.hid hb
    have hsz := hB.size
    clear o_a o_u hB o_n hb
    go_wp2_with (at_builtin; refine wpList_append_sl rfl (.tmp 24) (.tmp 32) rfl w1.heap.size _ [] rfl HN0.out va (r2 % ((xs.length : Int) + 1)).toNat vc (xs.take (r2 % ((xs.length : Int) + 1)).toNat) rfl HT.out ?c1 ?c2 ?_)
    case c1 => simp; omega
    case c2 => simp
    intro v2 w2 o_n2 hg2
    have hb2 := Lib.hid (Hb0.out.grown hg2 (by simp) (fun k e => by simp [Value.ownBlock] at e; omega))
    have o_n3 := Lib.hid (show Own w1.heap.size w2 v2 (xs.take (r2 % ((xs.length : Int) + 1)).toNat) from o_n2)
    have hsz2 := hb2.out.size
    have HU2 := Lib.hid (HU.out.sl.below hb2.out)
    obtain ⟨ua, uc, hu⟩ := HU.out.shape
    subst hu
    clear o_n2 hg2 HN0 Hb0 HT
    go_wp2_with (at_builtin; refine wpList_append_sl rfl (.tmp 33) (.tmp 34) rfl w1.heap.size _ _ rfl o_n3.out ua zs.length uc zs rfl HU2.out ?e1 ?e2 ?_)
    case e1 => simp; omega
    case e2 => exact hsz2
    intro v3 w3 o_b hg3
    have hb := hb2.out.grown hg3 hsz2 (fun k e => (o_n3.out.lt k e).1)
    have hB := HB.out
    have o_a := HA.out
    clear HA HU HB HU2 o_n3 hb2 hg3
    replace o_a := o_a.below hb
    replace o_b := Own.mono o_b hsz
    replace hB := hB.trans (hb.mono hsz)
    clear hb em em2 hvl hvm
    have HYT := Lib.hid (show isS (xs.take (r2 % ((xs.length : Int) + 1)).toNat ++ zs) = true by
      have h1 := isS_take HX.out (r2 % ((xs.length : Int) + 1)).toNat
      refine isS_mk (by simp; omega) (fun x hx => ?_)
      rcases List.mem_append.1 hx with hx | hx
      · exact isS_all h1 x hx
      · exact isS_all HZ.out x hx)
    have hyl : (xs.take (r2 % ((xs.length : Int) + 1)).toNat ++ zs).length ≤ 20 := by simp; omega
    obtain ⟨ys, hys⟩ : ∃ ys, xs.take (r2 % ((xs.length : Int) + 1)).toNat ++ zs = ys := ⟨_, rfl⟩
    rw [hys] at o_b HYT hyl
    clear hys hjl HZ
    have HY := HYT
    clear HYT
    have HXY := Lib.hid (show isS (xs ++ ys) = true by
      refine isS_mk (by simp; omega) (fun x hx => ?_)
      rcases List.mem_append.1 hx with hx | hx
      · exact isS_all HX.out x hx
      · exact isS_all HY.out x hx)
    cases hp : prefB xs ys with
    | true =>
      have HP := Lib.hid hp
      have hc0 := cpn_pref hp
      have hle := (prefB_len hp).2.2
      clear hp
      have hq : (((cpn xs ys : Nat) : Int) == (xs.length : Int)) = true := by rw [hc0]; simp
      have HQ := Lib.hid hc0
      clear hc0
      clear hq
      obtain ⟨ba, bc, rfl⟩ := o_b.shape
      have hl2 := isS_len HY.out
      have e1 := Lib.hid (pref_meet1 HX.out HY.out)
      have e2 := Lib.hid (pref_meet2 HX.out HY.out)
      have e3 := Lib.hid (meet_comm HX.out HY.out)
      have e4 := meet_len HX.out HY.out
      have e5 := Lib.hid ((appB_eq xs ys).symm.trans HXY.out)
      have e6 := Lib.hid (pref_app HX.out HXY.out)
      have c1 := cpn_le xs ys
      have c2 := cpn_le2 xs ys
      obtain ⟨M, hM⟩ : ∃ M, meetStreamsR0 xs ys = M := ⟨_, rfl⟩
      obtain ⟨c, hc⟩ : ∃ c, cpn xs ys = c := ⟨_, rfl⟩
      rw [hM] at e1 e2 e3 e4
      rw [hc] at e4 c1 c2
      have HM := Lib.hid hM
      have HC := Lib.hid hc
      have hqc := HQ.out
      rw [hc] at hqc
      have hcx : c ≤ xs.length := by omega
      subst hqc
      clear hM hc
      go_wp2_with fail
      refine (imeet_any _ xs _ ys _ o_a.sl o_b.sl).mono ?_
      rintro e w1 ⟨m, rfl, o_m, hb⟩
      replace o_a := o_a.below hb
      replace o_b := o_b.below hb
      replace o_m := o_m.mono hB.size
      replace hB := hB.trans (hb.mono hB.size)
      clear hb
      rw [HM.out] at o_m
      obtain ⟨ma, mc, hv⟩ := o_m.shape
      rw [e4] at hv
      subst hv
      replace e4 := Lib.hid e4
      go_wp2_with fail
      refine (ijoin_any _ xs _ ys _ o_a.sl o_b.sl).mono ?_
      rintro e w1 ⟨j, rfl, o_j, hb⟩
      replace o_a := o_a.below hb
      replace o_b := o_b.below hb
      replace o_m := o_m.below hb
      replace o_j := o_j.mono hB.size
      replace hB := hB.trans (hb.mono hB.size)
      clear hb
      rw [(join1 HP.out).1] at o_j
      rw [(join1 HP.out).2]
      obtain ⟨ja, jc, rfl⟩ := o_j.shape
      go_wp2_with fail
      refine (iappend_any _ xs _ ys _ o_a.sl o_b.sl).mono ?_
      rintro e w1 ⟨q, rfl, o_q, hb⟩
      replace o_a := o_a.below hb
      replace o_b := o_b.below hb
      replace o_m := o_m.below hb
      replace o_j := o_j.below hb
      replace o_q := o_q.mono hB.size
      replace hB := hB.trans (hb.mono hB.size)
      clear hb
      rw [app5 e5.out] at o_q
      rw [e5.out]
      go_wp2_with fail
      refine (irest_any _ xs _ (xs ++ ys) _ o_a.sl o_q.sl).mono ?_
      rintro e w1 ⟨t, rfl, o_t, hb⟩
      replace o_a := o_a.below hb
      replace o_b := o_b.below hb
      replace o_m := o_m.below hb
      replace o_j := o_j.below hb
      replace o_q := o_q.below hb
      replace o_t := o_t.mono hB.size
      replace hB := hB.trans (hb.mono hB.size)
      clear hb
      rw [rest1 e6.out, List.drop_left] at o_t
      rw [e6.out]
      go_wp2_with fail
      refine (iprefixB _ M _ xs _ o_m.sl o_a.sl).mono ?_
      rintro e w1 ⟨rfl, hb⟩
      replace o_a := o_a.below hb
      replace o_b := o_b.below hb
      replace o_m := o_m.below hb
      replace o_j := o_j.below hb
      replace o_q := o_q.below hb
      replace o_t := o_t.below hb
      replace hB := hB.trans (hb.mono hB.size)
      clear hb
      rw [e1.out]
      go_wp2_with fail
      refine (iprefixB _ M _ ys _ o_m.sl o_b.sl).mono ?_
      rintro e w1 ⟨rfl, hb⟩
      replace o_a := o_a.below hb
      replace o_b := o_b.below hb
      replace o_m := o_m.below hb
      replace o_j := o_j.below hb
      replace o_q := o_q.below hb
      replace o_t := o_t.below hb
      replace hB := hB.trans (hb.mono hB.size)
      clear hb
      rw [e2.out]
      go_wp2_with fail
      refine (imeet_any _ ys _ xs _ o_b.sl o_a.sl).mono ?_
      rintro e w1 ⟨m2, rfl, o_m2, hb⟩
      replace o_a := o_a.below hb
      replace o_b := o_b.below hb
      replace o_m := o_m.below hb
      replace o_j := o_j.below hb
      replace o_q := o_q.below hb
      replace o_t := o_t.below hb
      replace o_m2 := o_m2.mono hB.size
      replace hB := hB.trans (hb.mono hB.size)
      clear hb
      rw [e3.out] at o_m2
      go_wp2_with fail
      refine (ints_ok _ _ M _ o_m.sl o_m2.sl).mono ?_
      rintro e w1 ⟨rfl, hb⟩
      replace o_a := o_a.below hb
      replace o_b := o_b.below hb
      replace o_m := o_m.below hb
      replace o_j := o_j.below hb
      replace o_q := o_q.below hb
      replace o_t := o_t.below hb
      replace o_m2 := o_m2.below hb
      replace hB := hB.trans (hb.mono hB.size)
      clear hb
      go_wp2_with fail
      refine (ints_ok _ _ ys _ o_t.sl o_b.sl).mono ?_
      rintro e w1 ⟨rfl, hb⟩
      replace o_a := o_a.below hb
      replace o_b := o_b.below hb
      replace o_m := o_m.below hb
      replace o_j := o_j.below hb
      replace o_q := o_q.below hb
      replace o_t := o_t.below hb
      replace o_m2 := o_m2.below hb
      replace hB := hB.trans (hb.mono hB.size)
      clear hb
      go_wp2_with fail
      refine (iprefixB _ xs _ ys _ o_a.sl o_b.sl).mono ?_
      rintro e w1 ⟨rfl, hb⟩
      replace o_a := o_a.below hb
      replace o_b := o_b.below hb
      replace o_m := o_m.below hb
      replace o_j := o_j.below hb
      replace o_q := o_q.below hb
      replace o_t := o_t.below hb
      replace o_m2 := o_m2.below hb
      replace hB := hB.trans (hb.mono hB.size)
      clear hb
      rw [HP.out]
      go_wp2_with fail
      refine (iprefixB _ xs _ ys _ o_a.sl o_j.sl).mono ?_
      rintro e w1 ⟨rfl, hb⟩
      replace o_a := o_a.below hb
      replace o_b := o_b.below hb
      replace o_m := o_m.below hb
      replace o_j := o_j.below hb
      replace o_q := o_q.below hb
      replace o_t := o_t.below hb
      replace o_m2 := o_m2.below hb
      replace hB := hB.trans (hb.mono hB.size)
      clear hb
      rw [HP.out]
      go_wp2_with fail
      refine (iprefixB _ ys _ ys _ o_b.sl o_j.sl).mono ?_
      rintro e w1 ⟨rfl, hb⟩
      replace o_a := o_a.below hb
      replace o_b := o_b.below hb
      replace o_m := o_m.below hb
      replace o_j := o_j.below hb
      replace o_q := o_q.below hb
      replace o_t := o_t.below hb
      replace o_m2 := o_m2.below hb
      replace hB := hB.trans (hb.mono hB.size)
      clear hb
      rw [pref_self HY.out]
      go_wp2_with fail
      all_goals
        go_ret
        first | exact ⟨rfl, hB⟩ | exact ⟨ret_bool (by symm; simp; omega), hB⟩
    | false =>
      have HN := Lib.hid hp
      cases hp2 : prefB ys xs with
      | true =>
        have HP := Lib.hid hp2
        have hc0 := cpn_pref hp2
        rw [cpn_comm] at hc0
        have hle : ys.length < xs.length := by have := (prefB_len hp2).2.2; have := cpn_no1 HX.out HY.out hp; omega
        clear hp hp2
        have HQ := Lib.hid hc0
        clear hc0
        obtain ⟨ba, bc, rfl⟩ := o_b.shape
        have hl2 := isS_len HY.out
        have e1 := Lib.hid (pref_meet1 HX.out HY.out)
        have e2 := Lib.hid (pref_meet2 HX.out HY.out)
        have e3 := Lib.hid (meet_comm HX.out HY.out)
        have e4 := meet_len HX.out HY.out
        have e5 := Lib.hid ((appB_eq xs ys).symm.trans HXY.out)
        have e6 := Lib.hid (pref_app HX.out HXY.out)
        have c1 := cpn_le xs ys
        have c2 := cpn_le2 xs ys
        obtain ⟨M, hM⟩ : ∃ M, meetStreamsR0 xs ys = M := ⟨_, rfl⟩
        obtain ⟨c, hc⟩ : ∃ c, cpn xs ys = c := ⟨_, rfl⟩
        rw [hM] at e1 e2 e3 e4
        rw [hc] at e4 c1 c2
        have HM := Lib.hid hM
        have HC := Lib.hid hc
        have hqc := HQ.out
        rw [hc] at hqc
        have hcx : c ≤ xs.length := by omega
        subst hqc
        clear hM hc
        go_wp2_with fail
        refine (imeet_any _ xs _ ys _ o_a.sl o_b.sl).mono ?_
        rintro e w1 ⟨m, rfl, o_m, hb⟩
        replace o_a := o_a.below hb
        replace o_b := o_b.below hb
        replace o_m := o_m.mono hB.size
        replace hB := hB.trans (hb.mono hB.size)
        clear hb
        rw [HM.out] at o_m
        obtain ⟨ma, mc, hv⟩ := o_m.shape
        rw [e4] at hv
        subst hv
        replace e4 := Lib.hid e4
        go_wp2_with fail
        refine (ijoin_any _ xs _ ys _ o_a.sl o_b.sl).mono ?_
        rintro e w1 ⟨j, rfl, o_j, hb⟩
        replace o_a := o_a.below hb
        replace o_b := o_b.below hb
        replace o_m := o_m.below hb
        replace o_j := o_j.mono hB.size
        replace hB := hB.trans (hb.mono hB.size)
        clear hb
        rw [(join2 HN.out HP.out).1] at o_j
        rw [(join2 HN.out HP.out).2]
        obtain ⟨ja, jc, rfl⟩ := o_j.shape
        go_wp2_with fail
        refine (iappend_any _ xs _ ys _ o_a.sl o_b.sl).mono ?_
        rintro e w1 ⟨q, rfl, o_q, hb⟩
        replace o_a := o_a.below hb
        replace o_b := o_b.below hb
        replace o_m := o_m.below hb
        replace o_j := o_j.below hb
        replace o_q := o_q.mono hB.size
        replace hB := hB.trans (hb.mono hB.size)
        clear hb
        rw [app5 e5.out] at o_q
        rw [e5.out]
        go_wp2_with fail
        refine (irest_any _ xs _ (xs ++ ys) _ o_a.sl o_q.sl).mono ?_
        rintro e w1 ⟨t, rfl, o_t, hb⟩
        replace o_a := o_a.below hb
        replace o_b := o_b.below hb
        replace o_m := o_m.below hb
        replace o_j := o_j.below hb
        replace o_q := o_q.below hb
        replace o_t := o_t.mono hB.size
        replace hB := hB.trans (hb.mono hB.size)
        clear hb
        rw [rest1 e6.out, List.drop_left] at o_t
        rw [e6.out]
        go_wp2_with fail
        refine (iprefixB _ M _ xs _ o_m.sl o_a.sl).mono ?_
        rintro e w1 ⟨rfl, hb⟩
        replace o_a := o_a.below hb
        replace o_b := o_b.below hb
        replace o_m := o_m.below hb
        replace o_j := o_j.below hb
        replace o_q := o_q.below hb
        replace o_t := o_t.below hb
        replace hB := hB.trans (hb.mono hB.size)
        clear hb
        rw [e1.out]
        go_wp2_with fail
        refine (iprefixB _ M _ ys _ o_m.sl o_b.sl).mono ?_
        rintro e w1 ⟨rfl, hb⟩
        replace o_a := o_a.below hb
        replace o_b := o_b.below hb
        replace o_m := o_m.below hb
        replace o_j := o_j.below hb
        replace o_q := o_q.below hb
        replace o_t := o_t.below hb
        replace hB := hB.trans (hb.mono hB.size)
        clear hb
        rw [e2.out]
        go_wp2_with fail
        refine (imeet_any _ ys _ xs _ o_b.sl o_a.sl).mono ?_
        rintro e w1 ⟨m2, rfl, o_m2, hb⟩
        replace o_a := o_a.below hb
        replace o_b := o_b.below hb
        replace o_m := o_m.below hb
        replace o_j := o_j.below hb
        replace o_q := o_q.below hb
        replace o_t := o_t.below hb
        replace o_m2 := o_m2.mono hB.size
        replace hB := hB.trans (hb.mono hB.size)
        clear hb
        rw [e3.out] at o_m2
        go_wp2_with fail
        refine (ints_ok _ _ M _ o_m.sl o_m2.sl).mono ?_
        rintro e w1 ⟨rfl, hb⟩
        replace o_a := o_a.below hb
        replace o_b := o_b.below hb
        replace o_m := o_m.below hb
        replace o_j := o_j.below hb
        replace o_q := o_q.below hb
        replace o_t := o_t.below hb
        replace o_m2 := o_m2.below hb
        replace hB := hB.trans (hb.mono hB.size)
        clear hb
        go_wp2_with fail
        refine (ints_ok _ _ ys _ o_t.sl o_b.sl).mono ?_
        rintro e w1 ⟨rfl, hb⟩
        replace o_a := o_a.below hb
        replace o_b := o_b.below hb
        replace o_m := o_m.below hb
        replace o_j := o_j.below hb
        replace o_q := o_q.below hb
        replace o_t := o_t.below hb
        replace o_m2 := o_m2.below hb
        replace hB := hB.trans (hb.mono hB.size)
        clear hb
        go_wp2_with fail
        refine (iprefixB _ xs _ ys _ o_a.sl o_b.sl).mono ?_
        rintro e w1 ⟨rfl, hb⟩
        replace o_a := o_a.below hb
        replace o_b := o_b.below hb
        replace o_m := o_m.below hb
        replace o_j := o_j.below hb
        replace o_q := o_q.below hb
        replace o_t := o_t.below hb
        replace o_m2 := o_m2.below hb
        replace hB := hB.trans (hb.mono hB.size)
        clear hb
        rw [HN.out]
        go_wp2_with fail
        refine (iprefixB _ ys _ xs _ o_b.sl o_a.sl).mono ?_
        rintro e w1 ⟨rfl, hb⟩
        replace o_a := o_a.below hb
        replace o_b := o_b.below hb
        replace o_m := o_m.below hb
        replace o_j := o_j.below hb
        replace o_q := o_q.below hb
        replace o_t := o_t.below hb
        replace o_m2 := o_m2.below hb
        replace hB := hB.trans (hb.mono hB.size)
        clear hb
        rw [HP.out]
        go_wp2_with fail
        refine (iprefixB _ xs _ xs _ o_a.sl o_j.sl).mono ?_
        rintro e w1 ⟨rfl, hb⟩
        replace o_a := o_a.below hb
        replace o_b := o_b.below hb
        replace o_m := o_m.below hb
        replace o_j := o_j.below hb
        replace o_q := o_q.below hb
        replace o_t := o_t.below hb
        replace o_m2 := o_m2.below hb
        replace hB := hB.trans (hb.mono hB.size)
        clear hb
        rw [pref_self HX.out]
        go_wp2_with fail
        refine (iprefixB _ ys _ xs _ o_b.sl o_j.sl).mono ?_
        rintro e w1 ⟨rfl, hb⟩
        replace o_a := o_a.below hb
        replace o_b := o_b.below hb
        replace o_m := o_m.below hb
        replace o_j := o_j.below hb
        replace o_q := o_q.below hb
        replace o_t := o_t.below hb
        replace o_m2 := o_m2.below hb
        replace hB := hB.trans (hb.mono hB.size)
        clear hb
        rw [HP.out]
        go_wp2_with fail
        all_goals
          go_ret
          first | exact ⟨rfl, hB⟩ | exact ⟨ret_bool (by symm; simp; omega), hB⟩
      | false =>
        have HP := Lib.hid hp2
        have hc0 := cpn_no1 HX.out HY.out hp
        have hc1 := cpn_no2 HX.out HY.out hp2
        clear hp hp2
        by_cases hle : xs.length ≤ ys.length
        · skip
          have HQ := Lib.hid (And.intro hc0 hc1)
          clear hc0 hc1
          obtain ⟨ba, bc, rfl⟩ := o_b.shape
          have hl2 := isS_len HY.out
          have e1 := Lib.hid (pref_meet1 HX.out HY.out)
          have e2 := Lib.hid (pref_meet2 HX.out HY.out)
          have e3 := Lib.hid (meet_comm HX.out HY.out)
          have e4 := meet_len HX.out HY.out
          have e5 := Lib.hid ((appB_eq xs ys).symm.trans HXY.out)
          have e6 := Lib.hid (pref_app HX.out HXY.out)
          have c1 := cpn_le xs ys
          have c2 := cpn_le2 xs ys
          obtain ⟨M, hM⟩ : ∃ M, meetStreamsR0 xs ys = M := ⟨_, rfl⟩
          obtain ⟨c, hc⟩ : ∃ c, cpn xs ys = c := ⟨_, rfl⟩
          rw [hM] at e1 e2 e3 e4
          rw [hc] at e4 c1 c2
          have HM := Lib.hid hM
          have HC := Lib.hid hc
          have hqc := HQ.out
          rw [hc] at hqc
          clear hM hc
          go_wp2_with fail
          refine (imeet_any _ xs _ ys _ o_a.sl o_b.sl).mono ?_
          rintro e w1 ⟨m, rfl, o_m, hb⟩
          replace o_a := o_a.below hb
          replace o_b := o_b.below hb
          replace o_m := o_m.mono hB.size
          replace hB := hB.trans (hb.mono hB.size)
          clear hb
          rw [HM.out] at o_m
          obtain ⟨ma, mc, hv⟩ := o_m.shape
          rw [e4] at hv
          subst hv
          replace e4 := Lib.hid e4
          go_wp2_with fail
          refine (ijoin_any _ xs _ ys _ o_a.sl o_b.sl).mono ?_
          rintro e w1 ⟨j, rfl, o_j, hb⟩
          replace o_a := o_a.below hb
          replace o_b := o_b.below hb
          replace o_m := o_m.below hb
          replace o_j := o_j.mono hB.size
          replace hB := hB.trans (hb.mono hB.size)
          clear hb
          rw [(join3 HN.out HP.out).1] at o_j
          rw [(join3 HN.out HP.out).2]
          obtain ⟨ja, jc, rfl⟩ := o_j.shape
          go_wp2_with fail
          refine (iappend_any _ xs _ ys _ o_a.sl o_b.sl).mono ?_
          rintro e w1 ⟨q, rfl, o_q, hb⟩
          replace o_a := o_a.below hb
          replace o_b := o_b.below hb
          replace o_m := o_m.below hb
          replace o_j := o_j.below hb
          replace o_q := o_q.mono hB.size
          replace hB := hB.trans (hb.mono hB.size)
          clear hb
          rw [app5 e5.out] at o_q
          rw [e5.out]
          go_wp2_with fail
          refine (irest_any _ xs _ (xs ++ ys) _ o_a.sl o_q.sl).mono ?_
          rintro e w1 ⟨t, rfl, o_t, hb⟩
          replace o_a := o_a.below hb
          replace o_b := o_b.below hb
          replace o_m := o_m.below hb
          replace o_j := o_j.below hb
          replace o_q := o_q.below hb
          replace o_t := o_t.mono hB.size
          replace hB := hB.trans (hb.mono hB.size)
          clear hb
          rw [rest1 e6.out, List.drop_left] at o_t
          rw [e6.out]
          go_wp2_with fail
          refine (iprefixB _ M _ xs _ o_m.sl o_a.sl).mono ?_
          rintro e w1 ⟨rfl, hb⟩
          replace o_a := o_a.below hb
          replace o_b := o_b.below hb
          replace o_m := o_m.below hb
          replace o_j := o_j.below hb
          replace o_q := o_q.below hb
          replace o_t := o_t.below hb
          replace hB := hB.trans (hb.mono hB.size)
          clear hb
          rw [e1.out]
          go_wp2_with fail
          refine (iprefixB _ M _ ys _ o_m.sl o_b.sl).mono ?_
          rintro e w1 ⟨rfl, hb⟩
          replace o_a := o_a.below hb
          replace o_b := o_b.below hb
          replace o_m := o_m.below hb
          replace o_j := o_j.below hb
          replace o_q := o_q.below hb
          replace o_t := o_t.below hb
          replace hB := hB.trans (hb.mono hB.size)
          clear hb
          rw [e2.out]
          go_wp2_with fail
          refine (imeet_any _ ys _ xs _ o_b.sl o_a.sl).mono ?_
          rintro e w1 ⟨m2, rfl, o_m2, hb⟩
          replace o_a := o_a.below hb
          replace o_b := o_b.below hb
          replace o_m := o_m.below hb
          replace o_j := o_j.below hb
          replace o_q := o_q.below hb
          replace o_t := o_t.below hb
          replace o_m2 := o_m2.mono hB.size
          replace hB := hB.trans (hb.mono hB.size)
          clear hb
          rw [e3.out] at o_m2
          go_wp2_with fail
          refine (ints_ok _ _ M _ o_m.sl o_m2.sl).mono ?_
          rintro e w1 ⟨rfl, hb⟩
          replace o_a := o_a.below hb
          replace o_b := o_b.below hb
          replace o_m := o_m.below hb
          replace o_j := o_j.below hb
          replace o_q := o_q.below hb
          replace o_t := o_t.below hb
          replace o_m2 := o_m2.below hb
          replace hB := hB.trans (hb.mono hB.size)
          clear hb
          go_wp2_with fail
          refine (ints_ok _ _ ys _ o_t.sl o_b.sl).mono ?_
          rintro e w1 ⟨rfl, hb⟩
          replace o_a := o_a.below hb
          replace o_b := o_b.below hb
          replace o_m := o_m.below hb
          replace o_j := o_j.below hb
          replace o_q := o_q.below hb
          replace o_t := o_t.below hb
          replace o_m2 := o_m2.below hb
          replace hB := hB.trans (hb.mono hB.size)
          clear hb
          go_wp2_with fail
          refine (iprefixB _ xs _ ys _ o_a.sl o_b.sl).mono ?_
          rintro e w1 ⟨rfl, hb⟩
          replace o_a := o_a.below hb
          replace o_b := o_b.below hb
          replace o_m := o_m.below hb
          replace o_j := o_j.below hb
          replace o_q := o_q.below hb
          replace o_t := o_t.below hb
          replace o_m2 := o_m2.below hb
          replace hB := hB.trans (hb.mono hB.size)
          clear hb
          rw [HN.out]
          go_wp2_with fail
          refine (iprefixB _ ys _ xs _ o_b.sl o_a.sl).mono ?_
          rintro e w1 ⟨rfl, hb⟩
          replace o_a := o_a.below hb
          replace o_b := o_b.below hb
          replace o_m := o_m.below hb
          replace o_j := o_j.below hb
          replace o_q := o_q.below hb
          replace o_t := o_t.below hb
          replace o_m2 := o_m2.below hb
          replace hB := hB.trans (hb.mono hB.size)
          clear hb
          rw [HP.out]
          go_wp2_with fail
          all_goals
            go_ret
            first | exact ⟨rfl, hB⟩ | exact ⟨ret_bool (by symm; simp; omega), hB⟩
        · skip
          have HQ := Lib.hid (And.intro hc0 hc1)
          clear hc0 hc1
          obtain ⟨ba, bc, rfl⟩ := o_b.shape
          have hl2 := isS_len HY.out
          have e1 := Lib.hid (pref_meet1 HX.out HY.out)
          have e2 := Lib.hid (pref_meet2 HX.out HY.out)
          have e3 := Lib.hid (meet_comm HX.out HY.out)
          have e4 := meet_len HX.out HY.out
          have e5 := Lib.hid ((appB_eq xs ys).symm.trans HXY.out)
          have e6 := Lib.hid (pref_app HX.out HXY.out)
          have c1 := cpn_le xs ys
          have c2 := cpn_le2 xs ys
          obtain ⟨M, hM⟩ : ∃ M, meetStreamsR0 xs ys = M := ⟨_, rfl⟩
          obtain ⟨c, hc⟩ : ∃ c, cpn xs ys = c := ⟨_, rfl⟩
          rw [hM] at e1 e2 e3 e4
          rw [hc] at e4 c1 c2
          have HM := Lib.hid hM
          have HC := Lib.hid hc
          have hqc := HQ.out
          rw [hc] at hqc
          clear hM hc
          go_wp2_with fail
          refine (imeet_any _ xs _ ys _ o_a.sl o_b.sl).mono ?_
          rintro e w1 ⟨m, rfl, o_m, hb⟩
          replace o_a := o_a.below hb
          replace o_b := o_b.below hb
          replace o_m := o_m.mono hB.size
          replace hB := hB.trans (hb.mono hB.size)
          clear hb
          rw [HM.out] at o_m
          obtain ⟨ma, mc, hv⟩ := o_m.shape
          rw [e4] at hv
          subst hv
          replace e4 := Lib.hid e4
          go_wp2_with fail
          refine (ijoin_any _ xs _ ys _ o_a.sl o_b.sl).mono ?_
          rintro e w1 ⟨j, rfl, o_j, hb⟩
          replace o_a := o_a.below hb
          replace o_b := o_b.below hb
          replace o_m := o_m.below hb
          replace o_j := o_j.mono hB.size
          replace hB := hB.trans (hb.mono hB.size)
          clear hb
          rw [(join3 HN.out HP.out).1] at o_j
          rw [(join3 HN.out HP.out).2]
          obtain ⟨ja, jc, rfl⟩ := o_j.shape
          go_wp2_with fail
          refine (iappend_any _ xs _ ys _ o_a.sl o_b.sl).mono ?_
          rintro e w1 ⟨q, rfl, o_q, hb⟩
          replace o_a := o_a.below hb
          replace o_b := o_b.below hb
          replace o_m := o_m.below hb
          replace o_j := o_j.below hb
          replace o_q := o_q.mono hB.size
          replace hB := hB.trans (hb.mono hB.size)
          clear hb
          rw [app5 e5.out] at o_q
          rw [e5.out]
          go_wp2_with fail
          refine (irest_any _ xs _ (xs ++ ys) _ o_a.sl o_q.sl).mono ?_
          rintro e w1 ⟨t, rfl, o_t, hb⟩
          replace o_a := o_a.below hb
          replace o_b := o_b.below hb
          replace o_m := o_m.below hb
          replace o_j := o_j.below hb
          replace o_q := o_q.below hb
          replace o_t := o_t.mono hB.size
          replace hB := hB.trans (hb.mono hB.size)
          clear hb
          rw [rest1 e6.out, List.drop_left] at o_t
          rw [e6.out]
          go_wp2_with fail
          refine (iprefixB _ M _ xs _ o_m.sl o_a.sl).mono ?_
          rintro e w1 ⟨rfl, hb⟩
          replace o_a := o_a.below hb
          replace o_b := o_b.below hb
          replace o_m := o_m.below hb
          replace o_j := o_j.below hb
          replace o_q := o_q.below hb
          replace o_t := o_t.below hb
          replace hB := hB.trans (hb.mono hB.size)
          clear hb
          rw [e1.out]
          go_wp2_with fail
          refine (iprefixB _ M _ ys _ o_m.sl o_b.sl).mono ?_
          rintro e w1 ⟨rfl, hb⟩
          replace o_a := o_a.below hb
          replace o_b := o_b.below hb
          replace o_m := o_m.below hb
          replace o_j := o_j.below hb
          replace o_q := o_q.below hb
          replace o_t := o_t.below hb
          replace hB := hB.trans (hb.mono hB.size)
          clear hb
          rw [e2.out]
          go_wp2_with fail
          refine (imeet_any _ ys _ xs _ o_b.sl o_a.sl).mono ?_
          rintro e w1 ⟨m2, rfl, o_m2, hb⟩
          replace o_a := o_a.below hb
          replace o_b := o_b.below hb
          replace o_m := o_m.below hb
          replace o_j := o_j.below hb
          replace o_q := o_q.below hb
          replace o_t := o_t.below hb
          replace o_m2 := o_m2.mono hB.size
          replace hB := hB.trans (hb.mono hB.size)
          clear hb
          rw [e3.out] at o_m2
          go_wp2_with fail
          refine (ints_ok _ _ M _ o_m.sl o_m2.sl).mono ?_
          rintro e w1 ⟨rfl, hb⟩
          replace o_a := o_a.below hb
          replace o_b := o_b.below hb
          replace o_m := o_m.below hb
          replace o_j := o_j.below hb
          replace o_q := o_q.below hb
          replace o_t := o_t.below hb
          replace o_m2 := o_m2.below hb
          replace hB := hB.trans (hb.mono hB.size)
          clear hb
          go_wp2_with fail
          refine (ints_ok _ _ ys _ o_t.sl o_b.sl).mono ?_
          rintro e w1 ⟨rfl, hb⟩
          replace o_a := o_a.below hb
          replace o_b := o_b.below hb
          replace o_m := o_m.below hb
          replace o_j := o_j.below hb
          replace o_q := o_q.below hb
          replace o_t := o_t.below hb
          replace o_m2 := o_m2.below hb
          replace hB := hB.trans (hb.mono hB.size)
          clear hb
          go_wp2_with fail
          refine (iprefixB _ xs _ ys _ o_a.sl o_b.sl).mono ?_
          rintro e w1 ⟨rfl, hb⟩
          replace o_a := o_a.below hb
          replace o_b := o_b.below hb
          replace o_m := o_m.below hb
          replace o_j := o_j.below hb
          replace o_q := o_q.below hb
          replace o_t := o_t.below hb
          replace o_m2 := o_m2.below hb
          replace hB := hB.trans (hb.mono hB.size)
          clear hb
          rw [HN.out]
          go_wp2_with fail
          refine (iprefixB _ ys _ xs _ o_b.sl o_a.sl).mono ?_
          rintro e w1 ⟨rfl, hb⟩
          replace o_a := o_a.below hb
          replace o_b := o_b.below hb
          replace o_m := o_m.below hb
          replace o_j := o_j.below hb
          replace o_q := o_q.below hb
          replace o_t := o_t.below hb
          replace o_m2 := o_m2.below hb
          replace hB := hB.trans (hb.mono hB.size)
          clear hb
          rw [HP.out]
          go_wp2_with fail
          all_goals
            go_ret
            first | exact ⟨rfl, hB⟩ | exact ⟨ret_bool (by symm; simp; omega), hB⟩
  · skip
    have HY := HZ
    obtain ⟨ys, hys⟩ : ∃ ys, zs = ys := ⟨_, rfl⟩
    subst hys
    have o_b := o_u
    clear o_u HZ
    have HXY := Lib.hid (show isS (xs ++ zs) = true by
      refine isS_mk (by simp; omega) (fun x hx => ?_)
      rcases List.mem_append.1 hx with hx | hx
      · exact isS_all HX.out x hx
      · exact isS_all HY.out x hx)
    obtain ⟨ys, hys⟩ : ∃ ys, zs = ys := ⟨_, rfl⟩
    rw [hys] at o_b HY HXY
    have hyl : ys.length ≤ 20 := by rw [← hys]; omega
    clear hys hl3
    cases hp : prefB xs ys with
    | true =>
      have HP := Lib.hid hp
      have hc0 := cpn_pref hp
      have hle := (prefB_len hp).2.2
      clear hp
      have hq : (((cpn xs ys : Nat) : Int) == (xs.length : Int)) = true := by rw [hc0]; simp
      have HQ := Lib.hid hc0
      clear hc0
      clear hq
      obtain ⟨ba, bc, rfl⟩ := o_b.shape
      have hl2 := isS_len HY.out
      have e1 := Lib.hid (pref_meet1 HX.out HY.out)
      have e2 := Lib.hid (pref_meet2 HX.out HY.out)
      have e3 := Lib.hid (meet_comm HX.out HY.out)
      have e4 := meet_len HX.out HY.out
      have e5 := Lib.hid ((appB_eq xs ys).symm.trans HXY.out)
      have e6 := Lib.hid (pref_app HX.out HXY.out)
      have c1 := cpn_le xs ys
      have c2 := cpn_le2 xs ys
      obtain ⟨M, hM⟩ : ∃ M, meetStreamsR0 xs ys = M := ⟨_, rfl⟩
      obtain ⟨c, hc⟩ : ∃ c, cpn xs ys = c := ⟨_, rfl⟩
      rw [hM] at e1 e2 e3 e4
      rw [hc] at e4 c1 c2
      have HM := Lib.hid hM
      have HC := Lib.hid hc
      have hqc := HQ.out
      rw [hc] at hqc
      have hcx : c ≤ xs.length := by omega
      subst hqc
      clear hM hc
      go_wp2_with fail
      refine (imeet_any _ xs _ ys _ o_a.sl o_b.sl).mono ?_
      rintro e w1 ⟨m, rfl, o_m, hb⟩
      replace o_a := o_a.below hb
      replace o_b := o_b.below hb
      replace o_m := o_m.mono hB.size
      replace hB := hB.trans (hb.mono hB.size)
      clear hb
      rw [HM.out] at o_m
      obtain ⟨ma, mc, hv⟩ := o_m.shape
      rw [e4] at hv
      subst hv
      replace e4 := Lib.hid e4
      go_wp2_with fail
      refine (ijoin_any _ xs _ ys _ o_a.sl o_b.sl).mono ?_
      rintro e w1 ⟨j, rfl, o_j, hb⟩
      replace o_a := o_a.below hb
      replace o_b := o_b.below hb
      replace o_m := o_m.below hb
      replace o_j := o_j.mono hB.size
      replace hB := hB.trans (hb.mono hB.size)
      clear hb
      rw [(join1 HP.out).1] at o_j
      rw [(join1 HP.out).2]
      obtain ⟨ja, jc, rfl⟩ := o_j.shape
      go_wp2_with fail
      refine (iappend_any _ xs _ ys _ o_a.sl o_b.sl).mono ?_
      rintro e w1 ⟨q, rfl, o_q, hb⟩
      replace o_a := o_a.below hb
      replace o_b := o_b.below hb
      replace o_m := o_m.below hb
      replace o_j := o_j.below hb
      replace o_q := o_q.mono hB.size
      replace hB := hB.trans (hb.mono hB.size)
      clear hb
      rw [app5 e5.out] at o_q
      rw [e5.out]
      go_wp2_with fail
      refine (irest_any _ xs _ (xs ++ ys) _ o_a.sl o_q.sl).mono ?_
      rintro e w1 ⟨t, rfl, o_t, hb⟩
      replace o_a := o_a.below hb
      replace o_b := o_b.below hb
      replace o_m := o_m.below hb
      replace o_j := o_j.below hb
      replace o_q := o_q.below hb
      replace o_t := o_t.mono hB.size
      replace hB := hB.trans (hb.mono hB.size)
      clear hb
      rw [rest1 e6.out, List.drop_left] at o_t
      rw [e6.out]
      go_wp2_with fail
      refine (iprefixB _ M _ xs _ o_m.sl o_a.sl).mono ?_
      rintro e w1 ⟨rfl, hb⟩
      replace o_a := o_a.below hb
      replace o_b := o_b.below hb
      replace o_m := o_m.below hb
      replace o_j := o_j.below hb
      replace o_q := o_q.below hb
      replace o_t := o_t.below hb
      replace hB := hB.trans (hb.mono hB.size)
      clear hb
      rw [e1.out]
      go_wp2_with fail
      refine (iprefixB _ M _ ys _ o_m.sl o_b.sl).mono ?_
      rintro e w1 ⟨rfl, hb⟩
      replace o_a := o_a.below hb
      replace o_b := o_b.below hb
      replace o_m := o_m.below hb
      replace o_j := o_j.below hb
      replace o_q := o_q.below hb
      replace o_t := o_t.below hb
      replace hB := hB.trans (hb.mono hB.size)
      clear hb
      rw [e2.out]
      go_wp2_with fail
      refine (imeet_any _ ys _ xs _ o_b.sl o_a.sl).mono ?_
      rintro e w1 ⟨m2, rfl, o_m2, hb⟩
      replace o_a := o_a.below hb
      replace o_b := o_b.below hb
      replace o_m := o_m.below hb
      replace o_j := o_j.below hb
      replace o_q := o_q.below hb
      replace o_t := o_t.below hb
      replace o_m2 := o_m2.mono hB.size
      replace hB := hB.trans (hb.mono hB.size)
      clear hb
      rw [e3.out] at o_m2
      go_wp2_with fail
      refine (ints_ok _ _ M _ o_m.sl o_m2.sl).mono ?_
      rintro e w1 ⟨rfl, hb⟩
      replace o_a := o_a.below hb
      replace o_b := o_b.below hb
      replace o_m := o_m.below hb
      replace o_j := o_j.below hb
      replace o_q := o_q.below hb
      replace o_t := o_t.below hb
      replace o_m2 := o_m2.below hb
      replace hB := hB.trans (hb.mono hB.size)
      clear hb
      go_wp2_with fail
      refine (ints_ok _ _ ys _ o_t.sl o_b.sl).mono ?_
      rintro e w1 ⟨rfl, hb⟩
      replace o_a := o_a.below hb
      replace o_b := o_b.below hb
      replace o_m := o_m.below hb
      replace o_j := o_j.below hb
      replace o_q := o_q.below hb
      replace o_t := o_t.below hb
      replace o_m2 := o_m2.below hb
      replace hB := hB.trans (hb.mono hB.size)
      clear hb
      go_wp2_with fail
      refine (iprefixB _ xs _ ys _ o_a.sl o_b.sl).mono ?_
      rintro e w1 ⟨rfl, hb⟩
      replace o_a := o_a.below hb
      replace o_b := o_b.below hb
      replace o_m := o_m.below hb
      replace o_j := o_j.below hb
      replace o_q := o_q.below hb
      replace o_t := o_t.below hb
      replace o_m2 := o_m2.below hb
      replace hB := hB.trans (hb.mono hB.size)
      clear hb
      rw [HP.out]
      go_wp2_with fail
      refine (iprefixB _ xs _ ys _ o_a.sl o_j.sl).mono ?_
      rintro e w1 ⟨rfl, hb⟩
      replace o_a := o_a.below hb
      replace o_b := o_b.below hb
      replace o_m := o_m.below hb
      replace o_j := o_j.below hb
      replace o_q := o_q.below hb
      replace o_t := o_t.below hb
      replace o_m2 := o_m2.below hb
      replace hB := hB.trans (hb.mono hB.size)
      clear hb
      rw [HP.out]
      go_wp2_with fail
      refine (iprefixB _ ys _ ys _ o_b.sl o_j.sl).mono ?_
      rintro e w1 ⟨rfl, hb⟩
      replace o_a := o_a.below hb
      replace o_b := o_b.below hb
      replace o_m := o_m.below hb
      replace o_j := o_j.below hb
      replace o_q := o_q.below hb
      replace o_t := o_t.below hb
      replace o_m2 := o_m2.below hb
      replace hB := hB.trans (hb.mono hB.size)
      clear hb
      rw [pref_self HY.out]
      go_wp2_with fail
      all_goals
        go_ret
        first | exact ⟨rfl, hB⟩ | exact ⟨ret_bool (by symm; simp; omega), hB⟩
    | false =>
      have HN := Lib.hid hp
      cases hp2 : prefB ys xs with
      | true =>
        have HP := Lib.hid hp2
        have hc0 := cpn_pref hp2
        rw [cpn_comm] at hc0
        have hle : ys.length < xs.length := by have := (prefB_len hp2).2.2; have := cpn_no1 HX.out HY.out hp; omega
        clear hp hp2
        have HQ := Lib.hid hc0
        clear hc0
        obtain ⟨ba, bc, rfl⟩ := o_b.shape
        have hl2 := isS_len HY.out
        have e1 := Lib.hid (pref_meet1 HX.out HY.out)
        have e2 := Lib.hid (pref_meet2 HX.out HY.out)
        have e3 := Lib.hid (meet_comm HX.out HY.out)
        have e4 := meet_len HX.out HY.out
        have e5 := Lib.hid ((appB_eq xs ys).symm.trans HXY.out)
        have e6 := Lib.hid (pref_app HX.out HXY.out)
        have c1 := cpn_le xs ys
        have c2 := cpn_le2 xs ys
        obtain ⟨M, hM⟩ : ∃ M, meetStreamsR0 xs ys = M := ⟨_, rfl⟩
        obtain ⟨c, hc⟩ : ∃ c, cpn xs ys = c := ⟨_, rfl⟩
        rw [hM] at e1 e2 e3 e4
        rw [hc] at e4 c1 c2
        have HM := Lib.hid hM
        have HC := Lib.hid hc
        have hqc := HQ.out
        rw [hc] at hqc
        have hcx : c ≤ xs.length := by omega
        subst hqc
        clear hM hc
        go_wp2_with fail
        refine (imeet_any _ xs _ ys _ o_a.sl o_b.sl).mono ?_
        rintro e w1 ⟨m, rfl, o_m, hb⟩
        replace o_a := o_a.below hb
        replace o_b := o_b.below hb
        replace o_m := o_m.mono hB.size
        replace hB := hB.trans (hb.mono hB.size)
        clear hb
        rw [HM.out] at o_m
        obtain ⟨ma, mc, hv⟩ := o_m.shape
        rw [e4] at hv
        subst hv
        replace e4 := Lib.hid e4
        go_wp2_with fail
        refine (ijoin_any _ xs _ ys _ o_a.sl o_b.sl).mono ?_
        rintro e w1 ⟨j, rfl, o_j, hb⟩
        replace o_a := o_a.below hb
        replace o_b := o_b.below hb
        replace o_m := o_m.below hb
        replace o_j := o_j.mono hB.size
        replace hB := hB.trans (hb.mono hB.size)
        clear hb
        rw [(join2 HN.out HP.out).1] at o_j
        rw [(join2 HN.out HP.out).2]
        obtain ⟨ja, jc, rfl⟩ := o_j.shape
        go_wp2_with fail
        refine (iappend_any _ xs _ ys _ o_a.sl o_b.sl).mono ?_
        rintro e w1 ⟨q, rfl, o_q, hb⟩
        replace o_a := o_a.below hb
        replace o_b := o_b.below hb
        replace o_m := o_m.below hb
        replace o_j := o_j.below hb
        replace o_q := o_q.mono hB.size
        replace hB := hB.trans (hb.mono hB.size)
        clear hb
        rw [app5 e5.out] at o_q
        rw [e5.out]
        go_wp2_with fail
        refine (irest_any _ xs _ (xs ++ ys) _ o_a.sl o_q.sl).mono ?_
        rintro e w1 ⟨t, rfl, o_t, hb⟩
        replace o_a := o_a.below hb
        replace o_b := o_b.below hb
        replace o_m := o_m.below hb
        replace o_j := o_j.below hb
        replace o_q := o_q.below hb
        replace o_t := o_t.mono hB.size
        replace hB := hB.trans (hb.mono hB.size)
        clear hb
        rw [rest1 e6.out, List.drop_left] at o_t
        rw [e6.out]
        go_wp2_with fail
        refine (iprefixB _ M _ xs _ o_m.sl o_a.sl).mono ?_
        rintro e w1 ⟨rfl, hb⟩
        replace o_a := o_a.below hb
        replace o_b := o_b.below hb
        replace o_m := o_m.below hb
        replace o_j := o_j.below hb
        replace o_q := o_q.below hb
        replace o_t := o_t.below hb
        replace hB := hB.trans (hb.mono hB.size)
        clear hb
        rw [e1.out]
        go_wp2_with fail
        refine (iprefixB _ M _ ys _ o_m.sl o_b.sl).mono ?_
        rintro e w1 ⟨rfl, hb⟩
        replace o_a := o_a.below hb
        replace o_b := o_b.below hb
        replace o_m := o_m.below hb
        replace o_j := o_j.below hb
        replace o_q := o_q.below hb
        replace o_t := o_t.below hb
        replace hB := hB.trans (hb.mono hB.size)
        clear hb
        rw [e2.out]
        go_wp2_with fail
        refine (imeet_any _ ys _ xs _ o_b.sl o_a.sl).mono ?_
        rintro e w1 ⟨m2, rfl, o_m2, hb⟩
        replace o_a := o_a.below hb
        replace o_b := o_b.below hb
        replace o_m := o_m.below hb
        replace o_j := o_j.below hb
        replace o_q := o_q.below hb
        replace o_t := o_t.below hb
        replace o_m2 := o_m2.mono hB.size
        replace hB := hB.trans (hb.mono hB.size)
        clear hb
        rw [e3.out] at o_m2
        go_wp2_with fail
        refine (ints_ok _ _ M _ o_m.sl o_m2.sl).mono ?_
        rintro e w1 ⟨rfl, hb⟩
        replace o_a := o_a.below hb
        replace o_b := o_b.below hb
        replace o_m := o_m.below hb
        replace o_j := o_j.below hb
        replace o_q := o_q.below hb
        replace o_t := o_t.below hb
        replace o_m2 := o_m2.below hb
        replace hB := hB.trans (hb.mono hB.size)
        clear hb
        go_wp2_with fail
        refine (ints_ok _ _ ys _ o_t.sl o_b.sl).mono ?_
        rintro e w1 ⟨rfl, hb⟩
        replace o_a := o_a.below hb
        replace o_b := o_b.below hb
        replace o_m := o_m.below hb
        replace o_j := o_j.below hb
        replace o_q := o_q.below hb
        replace o_t := o_t.below hb
        replace o_m2 := o_m2.below hb
        replace hB := hB.trans (hb.mono hB.size)
        clear hb
        go_wp2_with fail
        refine (iprefixB _ xs _ ys _ o_a.sl o_b.sl).mono ?_
        rintro e w1 ⟨rfl, hb⟩
        replace o_a := o_a.below hb
        replace o_b := o_b.below hb
        replace o_m := o_m.below hb
        replace o_j := o_j.below hb
        replace o_q := o_q.below hb
        replace o_t := o_t.below hb
        replace o_m2 := o_m2.below hb
        replace hB := hB.trans (hb.mono hB.size)
        clear hb
        rw [HN.out]
        go_wp2_with fail
        refine (iprefixB _ ys _ xs _ o_b.sl o_a.sl).mono ?_
        rintro e w1 ⟨rfl, hb⟩
        replace o_a := o_a.below hb
        replace o_b := o_b.below hb
        replace o_m := o_m.below hb
        replace o_j := o_j.below hb
        replace o_q := o_q.below hb
        replace o_t := o_t.below hb
        replace o_m2 := o_m2.below hb
        replace hB := hB.trans (hb.mono hB.size)
        clear hb
        rw [HP.out]
        go_wp2_with fail
        refine (iprefixB _ xs _ xs _ o_a.sl o_j.sl).mono ?_
        rintro e w1 ⟨rfl, hb⟩
        replace o_a := o_a.below hb
        replace o_b := o_b.below hb
        replace o_m := o_m.below hb
        replace o_j := o_j.below hb
        replace o_q := o_q.below hb
        replace o_t := o_t.below hb
        replace o_m2 := o_m2.below hb
        replace hB := hB.trans (hb.mono hB.size)
        clear hb
        rw [pref_self HX.out]
        go_wp2_with fail
        refine (iprefixB _ ys _ xs _ o_b.sl o_j.sl).mono ?_
        rintro e w1 ⟨rfl, hb⟩
        replace o_a := o_a.below hb
        replace o_b := o_b.below hb
        replace o_m := o_m.below hb
        replace o_j := o_j.below hb
        replace o_q := o_q.below hb
        replace o_t := o_t.below hb
        replace o_m2 := o_m2.below hb
        replace hB := hB.trans (hb.mono hB.size)
        clear hb
        rw [HP.out]
        go_wp2_with fail
        all_goals
          go_ret
          first | exact ⟨rfl, hB⟩ | exact ⟨ret_bool (by symm; simp; omega), hB⟩
      | false =>
        have HP := Lib.hid hp2
        have hc0 := cpn_no1 HX.out HY.out hp
        have hc1 := cpn_no2 HX.out HY.out hp2
        clear hp hp2
        by_cases hle : xs.length ≤ ys.length
        · skip
          have HQ := Lib.hid (And.intro hc0 hc1)
          clear hc0 hc1
          obtain ⟨ba, bc, rfl⟩ := o_b.shape
          have hl2 := isS_len HY.out
          have e1 := Lib.hid (pref_meet1 HX.out HY.out)
          have e2 := Lib.hid (pref_meet2 HX.out HY.out)
          have e3 := Lib.hid (meet_comm HX.out HY.out)
          have e4 := meet_len HX.out HY.out
          have e5 := Lib.hid ((appB_eq xs ys).symm.trans HXY.out)
          have e6 := Lib.hid (pref_app HX.out HXY.out)
          have c1 := cpn_le xs ys
          have c2 := cpn_le2 xs ys
          obtain ⟨M, hM⟩ : ∃ M, meetStreamsR0 xs ys = M := ⟨_, rfl⟩
          obtain ⟨c, hc⟩ : ∃ c, cpn xs ys = c := ⟨_, rfl⟩
          rw [hM] at e1 e2 e3 e4
          rw [hc] at e4 c1 c2
          have HM := Lib.hid hM
          have HC := Lib.hid hc
          have hqc := HQ.out
          rw [hc] at hqc
          clear hM hc
          go_wp2_with fail
          refine (imeet_any _ xs _ ys _ o_a.sl o_b.sl).mono ?_
          rintro e w1 ⟨m, rfl, o_m, hb⟩
          replace o_a := o_a.below hb
          replace o_b := o_b.below hb
          replace o_m := o_m.mono hB.size
          replace hB := hB.trans (hb.mono hB.size)
          clear hb
          rw [HM.out] at o_m
          obtain ⟨ma, mc, hv⟩ := o_m.shape
          rw [e4] at hv
          subst hv
          replace e4 := Lib.hid e4
          go_wp2_with fail
          refine (ijoin_any _ xs _ ys _ o_a.sl o_b.sl).mono ?_
          rintro e w1 ⟨j, rfl, o_j, hb⟩
          replace o_a := o_a.below hb
          replace o_b := o_b.below hb
          replace o_m := o_m.below hb
          replace o_j := o_j.mono hB.size
          replace hB := hB.trans (hb.mono hB.size)
          clear hb
          rw [(join3 HN.out HP.out).1] at o_j
          rw [(join3 HN.out HP.out).2]
          obtain ⟨ja, jc, rfl⟩ := o_j.shape
          go_wp2_with fail
          refine (iappend_any _ xs _ ys _ o_a.sl o_b.sl).mono ?_
          rintro e w1 ⟨q, rfl, o_q, hb⟩
          replace o_a := o_a.below hb
          replace o_b := o_b.below hb
          replace o_m := o_m.below hb
          replace o_j := o_j.below hb
          replace o_q := o_q.mono hB.size
          replace hB := hB.trans (hb.mono hB.size)
          clear hb
          rw [app5 e5.out] at o_q
          rw [e5.out]
          go_wp2_with fail
          refine (irest_any _ xs _ (xs ++ ys) _ o_a.sl o_q.sl).mono ?_
          rintro e w1 ⟨t, rfl, o_t, hb⟩
          replace o_a := o_a.below hb
          replace o_b := o_b.below hb
          replace o_m := o_m.below hb
          replace o_j := o_j.below hb
          replace o_q := o_q.below hb
          replace o_t := o_t.mono hB.size
          replace hB := hB.trans (hb.mono hB.size)
          clear hb
          rw [rest1 e6.out, List.drop_left] at o_t
          rw [e6.out]
          go_wp2_with fail
          refine (iprefixB _ M _ xs _ o_m.sl o_a.sl).mono ?_
          rintro e w1 ⟨rfl, hb⟩
          replace o_a := o_a.below hb
          replace o_b := o_b.below hb
          replace o_m := o_m.below hb
          replace o_j := o_j.below hb
          replace o_q := o_q.below hb
          replace o_t := o_t.below hb
          replace hB := hB.trans (hb.mono hB.size)
          clear hb
          rw [e1.out]
          go_wp2_with fail
          refine (iprefixB _ M _ ys _ o_m.sl o_b.sl).mono ?_
          rintro e w1 ⟨rfl, hb⟩
          replace o_a := o_a.below hb
          replace o_b := o_b.below hb
          replace o_m := o_m.below hb
          replace o_j := o_j.below hb
          replace o_q := o_q.below hb
          replace o_t := o_t.below hb
          replace hB := hB.trans (hb.mono hB.size)
          clear hb
          rw [e2.out]
          go_wp2_with fail
          refine (imeet_any _ ys _ xs _ o_b.sl o_a.sl).mono ?_
          rintro e w1 ⟨m2, rfl, o_m2, hb⟩
          replace o_a := o_a.below hb
          replace o_b := o_b.below hb
          replace o_m := o_m.below hb
          replace o_j := o_j.below hb
          replace o_q := o_q.below hb
          replace o_t := o_t.below hb
          replace o_m2 := o_m2.mono hB.size
          replace hB := hB.trans (hb.mono hB.size)
          clear hb
          rw [e3.out] at o_m2
          go_wp2_with fail
          refine (ints_ok _ _ M _ o_m.sl o_m2.sl).mono ?_
          rintro e w1 ⟨rfl, hb⟩
          replace o_a := o_a.below hb
          replace o_b := o_b.below hb
          replace o_m := o_m.below hb
          replace o_j := o_j.below hb
          replace o_q := o_q.below hb
          replace o_t := o_t.below hb
          replace o_m2 := o_m2.below hb
          replace hB := hB.trans (hb.mono hB.size)
          clear hb
          go_wp2_with fail
          refine (ints_ok _ _ ys _ o_t.sl o_b.sl).mono ?_
          rintro e w1 ⟨rfl, hb⟩
          replace o_a := o_a.below hb
          replace o_b := o_b.below hb
          replace o_m := o_m.below hb
          replace o_j := o_j.below hb
          replace o_q := o_q.below hb
          replace o_t := o_t.below hb
          replace o_m2 := o_m2.below hb
          replace hB := hB.trans (hb.mono hB.size)
          clear hb
          go_wp2_with fail
          refine (iprefixB _ xs _ ys _ o_a.sl o_b.sl).mono ?_
          rintro e w1 ⟨rfl, hb⟩
          replace o_a := o_a.below hb
          replace o_b := o_b.below hb
          replace o_m := o_m.below hb
          replace o_j := o_j.below hb
          replace o_q := o_q.below hb
          replace o_t := o_t.below hb
          replace o_m2 := o_m2.below hb
          replace hB := hB.trans (hb.mono hB.size)
          clear hb
          rw [HN.out]
          go_wp2_with fail
          refine (iprefixB _ ys _ xs _ o_b.sl o_a.sl).mono ?_
          rintro e w1 ⟨rfl, hb⟩
          replace o_a := o_a.below hb
          replace o_b := o_b.below hb
          replace o_m := o_m.below hb
          replace o_j := o_j.below hb
          replace o_q := o_q.below hb
          replace o_t := o_t.below hb
          replace o_m2 := o_m2.below hb
          replace hB := hB.trans (hb.mono hB.size)
          clear hb
          rw [HP.out]
          go_wp2_with fail
          all_goals
            go_ret
            first | exact ⟨rfl, hB⟩ | exact ⟨ret_bool (by symm; simp; omega), hB⟩
        · skip
          have HQ := Lib.hid (And.intro hc0 hc1)
          clear hc0 hc1
          obtain ⟨ba, bc, rfl⟩ := o_b.shape
          have hl2 := isS_len HY.out
          have e1 := Lib.hid (pref_meet1 HX.out HY.out)
          have e2 := Lib.hid (pref_meet2 HX.out HY.out)
          have e3 := Lib.hid (meet_comm HX.out HY.out)
          have e4 := meet_len HX.out HY.out
          have e5 := Lib.hid ((appB_eq xs ys).symm.trans HXY.out)
          have e6 := Lib.hid (pref_app HX.out HXY.out)
          have c1 := cpn_le xs ys
          have c2 := cpn_le2 xs ys
          obtain ⟨M, hM⟩ : ∃ M, meetStreamsR0 xs ys = M := ⟨_, rfl⟩
          obtain ⟨c, hc⟩ : ∃ c, cpn xs ys = c := ⟨_, rfl⟩
          rw [hM] at e1 e2 e3 e4
          rw [hc] at e4 c1 c2
          have HM := Lib.hid hM
          have HC := Lib.hid hc
          have hqc := HQ.out
          rw [hc] at hqc
          clear hM hc
          go_wp2_with fail
          refine (imeet_any _ xs _ ys _ o_a.sl o_b.sl).mono ?_
          rintro e w1 ⟨m, rfl, o_m, hb⟩
          replace o_a := o_a.below hb
          replace o_b := o_b.below hb
          replace o_m := o_m.mono hB.size
          replace hB := hB.trans (hb.mono hB.size)
          clear hb
          rw [HM.out] at o_m
          obtain ⟨ma, mc, hv⟩ := o_m.shape
          rw [e4] at hv
          subst hv
          replace e4 := Lib.hid e4
          go_wp2_with fail
          refine (ijoin_any _ xs _ ys _ o_a.sl o_b.sl).mono ?_
          rintro e w1 ⟨j, rfl, o_j, hb⟩
          replace o_a := o_a.below hb
          replace o_b := o_b.below hb
          replace o_m := o_m.below hb
          replace o_j := o_j.mono hB.size
          replace hB := hB.trans (hb.mono hB.size)
          clear hb
          rw [(join3 HN.out HP.out).1] at o_j
          rw [(join3 HN.out HP.out).2]
          obtain ⟨ja, jc, rfl⟩ := o_j.shape
          go_wp2_with fail
          refine (iappend_any _ xs _ ys _ o_a.sl o_b.sl).mono ?_
          rintro e w1 ⟨q, rfl, o_q, hb⟩
          replace o_a := o_a.below hb
          replace o_b := o_b.below hb
          replace o_m := o_m.below hb
          replace o_j := o_j.below hb
          replace o_q := o_q.mono hB.size
          replace hB := hB.trans (hb.mono hB.size)
          clear hb
          rw [app5 e5.out] at o_q
          rw [e5.out]
          go_wp2_with fail
          refine (irest_any _ xs _ (xs ++ ys) _ o_a.sl o_q.sl).mono ?_
          rintro e w1 ⟨t, rfl, o_t, hb⟩
          replace o_a := o_a.below hb
          replace o_b := o_b.below hb
          replace o_m := o_m.below hb
          replace o_j := o_j.below hb
          replace o_q := o_q.below hb
          replace o_t := o_t.mono hB.size
          replace hB := hB.trans (hb.mono hB.size)
          clear hb
          rw [rest1 e6.out, List.drop_left] at o_t
          rw [e6.out]
          go_wp2_with fail
          refine (iprefixB _ M _ xs _ o_m.sl o_a.sl).mono ?_
          rintro e w1 ⟨rfl, hb⟩
          replace o_a := o_a.below hb
          replace o_b := o_b.below hb
          replace o_m := o_m.below hb
          replace o_j := o_j.below hb
          replace o_q := o_q.below hb
          replace o_t := o_t.below hb
          replace hB := hB.trans (hb.mono hB.size)
          clear hb
          rw [e1.out]
          go_wp2_with fail
          refine (iprefixB _ M _ ys _ o_m.sl o_b.sl).mono ?_
          rintro e w1 ⟨rfl, hb⟩
          replace o_a := o_a.below hb
          replace o_b := o_b.below hb
          replace o_m := o_m.below hb
          replace o_j := o_j.below hb
          replace o_q := o_q.below hb
          replace o_t := o_t.below hb
          replace hB := hB.trans (hb.mono hB.size)
          clear hb
          rw [e2.out]
          go_wp2_with fail
          refine (imeet_any _ ys _ xs _ o_b.sl o_a.sl).mono ?_
          rintro e w1 ⟨m2, rfl, o_m2, hb⟩
          replace o_a := o_a.below hb
          replace o_b := o_b.below hb
          replace o_m := o_m.below hb
          replace o_j := o_j.below hb
          replace o_q := o_q.below hb
          replace o_t := o_t.below hb
          replace o_m2 := o_m2.mono hB.size
          replace hB := hB.trans (hb.mono hB.size)
          clear hb
          rw [e3.out] at o_m2
          go_wp2_with fail
          refine (ints_ok _ _ M _ o_m.sl o_m2.sl).mono ?_
          rintro e w1 ⟨rfl, hb⟩
          replace o_a := o_a.below hb
          replace o_b := o_b.below hb
          replace o_m := o_m.below hb
          replace o_j := o_j.below hb
          replace o_q := o_q.below hb
          replace o_t := o_t.below hb
          replace o_m2 := o_m2.below hb
          replace hB := hB.trans (hb.mono hB.size)
          clear hb
          go_wp2_with fail
          refine (ints_ok _ _ ys _ o_t.sl o_b.sl).mono ?_
          rintro e w1 ⟨rfl, hb⟩
          replace o_a := o_a.below hb
          replace o_b := o_b.below hb
          replace o_m := o_m.below hb
          replace o_j := o_j.below hb
          replace o_q := o_q.below hb
          replace o_t := o_t.below hb
          replace o_m2 := o_m2.below hb
          replace hB := hB.trans (hb.mono hB.size)
          clear hb
          go_wp2_with fail
          refine (iprefixB _ xs _ ys _ o_a.sl o_b.sl).mono ?_
          rintro e w1 ⟨rfl, hb⟩
          replace o_a := o_a.below hb
          replace o_b := o_b.below hb
          replace o_m := o_m.below hb
          replace o_j := o_j.below hb
          replace o_q := o_q.below hb
          replace o_t := o_t.below hb
          replace o_m2 := o_m2.below hb
          replace hB := hB.trans (hb.mono hB.size)
          clear hb
          rw [HN.out]
          go_wp2_with fail
          refine (iprefixB _ ys _ xs _ o_b.sl o_a.sl).mono ?_
          rintro e w1 ⟨rfl, hb⟩
          replace o_a := o_a.below hb
          replace o_b := o_b.below hb
          replace o_m := o_m.below hb
          replace o_j := o_j.below hb
          replace o_q := o_q.below hb
          replace o_t := o_t.below hb
          replace o_m2 := o_m2.below hb
          replace hB := hB.trans (hb.mono hB.size)
          clear hb
          rw [HP.out]
          go_wp2_with fail
          all_goals
            go_ret
            first | exact ⟨rfl, hB⟩ | exact ⟨ret_bool (by symm; simp; omega), hB⟩

set_option maxHeartbeats 400000 in
theorem fnStreams_walk {v : Value} {bs : List Int} (w : World) (h : Sb w v bs) :
    Calls Try.prog 4 #[v] w fun e w' => e = .returned (.bool true) ∧ Below w.heap.size w w' := by
  obtain ⟨a, cap, rfl, r⟩ := h
  by_cases hs : bs.length ≤ 1048576
  · exact fnStreams_core a cap bs w ⟨a, cap, rfl, r⟩ hs
  · have b0 : bs.length ≤ 9223372036854775807 := by have := r.1; have := r.2.1; unfold maxLen at this; omega
    clear r
    go_enter Try.func4, Try.ntmps4
    go_wp2_with fail
    go_ret
    exact ⟨rfl, Below.refl _ _⟩

end Go.Proofs.Ythlpgpgfdfnofaa
