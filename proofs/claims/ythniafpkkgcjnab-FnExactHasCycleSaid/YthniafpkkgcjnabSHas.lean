/-
  What the model's HasCycle, ReachedFrom answer. No statement of the seat is proved here.
-/
import Derived.Test.YthniafpkkgcjnabSReach
namespace Go.Proofs.Ythniafpkkgcjnab
open Go.RowKit

set_option maxRecDepth 100000 in
set_option maxHeartbeats 4000000 in
theorem shas2_any (v : Value) (n : Net) (w : World) (h : NetV w v n) :
    Calls Try.prog 35 #[v] w fun e w' => e = .returned (.bool (hasCycleR0 n)) ∧ Below w.heap.size w w' := by
  have CN := Lib.hid (fun (W : World) (hw : Below w.heap.size w W) => sisnet_any v n W (h.below hw))
  have CR := Lib.hid (fun (W : World) (hw : Below w.heap.size w W) (ho : okN n = true) (p : Int) => sreached_any v n p W (h.below hw) ho)
  obtain ⟨r, hr⟩ : ∃ r, r = hasCycleR0 n := ⟨_, rfl⟩
  rw [← hr]
  obtain ⟨c, d, rfl, hp, hl⟩ := h
  obtain ⟨la, lcap, rfl⟩ := hl.shape
  obtain ⟨pa, pcap, rfl⟩ := hp.shape
  obtain ⟨m, hm⟩ : ∃ m, m = n.progs.length := ⟨_, rfl⟩
  obtain ⟨ll, hll⟩ : ∃ m, m = n.links.length := ⟨_, rfl⟩
  rw [← hm, ← hll] at CN CR ⊢
  clear hp hl
  have hb := Lib.hid ((Below.refl w.heap.size w).al (.cells #[.slice pa m pcap, .slice la ll lcap] 32))
  have hH := Lib.hid (hp1 w (.cells #[.slice pa m pcap, .slice la ll lcap] 32))
  cases ho : okN n with
  | false =>
    rw [ho] at CN
    have e1 := Lib.hid (hr.trans (hasCycle_bad ho))
    clear ho hr hm hll CR
    go_enter Try.func35, Try.ntmps35
    go_wp2_with (go_at_call 38; with_reducible refine (CN.out _ hb.out).mono ?_; rintro e w2 ⟨rfl, hb1⟩; have HB1 := Lib.hid (hb.out.trans (hb1.mono hb.out.size)); clear hb1)
    go_ret
    exact ⟨ret_bool e1.out, HB1.out⟩
  | true =>
    rw [ho] at CN
    have HR := Lib.hid (show r = (List.range m).any (metB n.links m) by rw [hm]; exact hr.trans (hasCycle_ok ho))
    have CR2 := Lib.hid (fun (W : World) (hw : Below w.heap.size w W) (p : Int) => CR.out W hw ho p)
    have hm12 : m ≤ 12 := by rw [hm]; exact (okN_len ho).1
    clear ho hr hm hll CR
    go_enter Try.func35, Try.ntmps35
    go_wp2_with (go_at_call 38; with_reducible refine (CN.out _ hb.out).mono ?_; rintro e w2 ⟨rfl, hb1⟩; have HB1 := Lib.hid hb1; have G1 := Lib.hid (blk_in hH.out hb1); obtain ⟨k0, k1⟩ := cells2 G1.out; have gl := lt_of G1.out; clear hb1)
    go_loopw [10] (fun i wr => ∃ k : Nat, k ≤ m ∧ i = .int .i64 k ∧ Hid ((List.range k).any (metB n.links m) = false) ∧ Hid (Below (w.heap.size + 1) (w.alloc (.cells #[.slice pa m pcap, .slice la ll lcap] 32)) wr)) (fun i _ => m - (intOf i).toNat)
    case atStart => exact ⟨0, Nat.zero_le _, rfl, Lib.hid (by simp), Lib.hid (by have := HB1.out; rw [al_size] at this; exact this)⟩
    case round =>
      clear k0 k1 gl
      obtain ⟨k, hk, rfl, HA, HW⟩ := hrel
      have HB := Lib.hid (hb.out.trans (HW.out.mono (by omega)))
      by_cases hlt : k < m
      · have G := Lib.hid (blk_in hH.out (HW.out.mono (by simp)))
        obtain ⟨k0, k1⟩ := cells2 G.out
        have gl := lt_of G.out
        have lk2 : (k : Int) < (m : Int) := by omega
        cases hd : metB n.links m k with
        | true =>
          have HE := Lib.hid (HR.out.trans (any_hit hlt hd))
          have HD := Lib.hid (show (rnd (k : Int) n.links m m).getD k false = true from hd)
          clear hd
          go_wp2_with (go_at_call 69; with_reducible refine (CR2.out _ HB.out _).mono ?_; rintro e w3 ⟨rfl, ho3, hb3⟩; have HB3 := Lib.hid (HB.out.trans (hb3.mono HB.out.size)); have ck := (ho3.cell hlt).1; rw [HD.out] at ck; have lr := ho3.lt; clear ho3 hb3)
          go_ret
          exact ⟨ret_bool HE.out, HB3.out⟩
        | false =>
          have HE := Lib.hid (any_step HA.out hd)
          have HD := Lib.hid (show (rnd (k : Int) n.links m m).getD k false = false from hd)
          clear hd
          go_wp2_with (go_at_call 69; with_reducible refine (CR2.out _ HB.out _).mono ?_; rintro e w3 ⟨rfl, ho3, hb3⟩; have HW3 := Lib.hid (HW.out.trans (hb3.mono (by have := gl; omega))); have ck := (ho3.cell hlt).1; rw [HD.out] at ck; have lr := ho3.lt; clear ho3 hb3)
          go_roundw
          case rel => exact ⟨k + 1, by omega, by go_num, HE, HW3⟩
          case measure => simp [intOf]; omega
      · have e : k = m := by omega
        subst e
        go_wp2_with fail
        go_ret
        exact ⟨ret_bool (HR.out.trans HA.out), HB.out⟩

theorem own_ne_rowB {lo g m : Nat} {w : World} {v : Value} {xs : List Int} {ms : List Bool} (h : Own lo w v xs) (hr : RowB g m w ms) : v.ownBlock ≠ some g := by
  intro e
  rcases h.2 with ⟨rfl, _⟩ | ⟨g2, cap2, cur2, rfl, _, hh2, _⟩
  · simp [Value.ownBlock] at e
  · simp only [Value.ownBlock, Option.some.injEq] at e
    subst e
    rcases hr.2.2 with ⟨z, _⟩ | ⟨g3, cap3, cur3, z, _, hh3, _⟩
    · simp at z
    · simp only [Value.slice.injEq, Option.some.injEq, Addr.mk.injEq, and_true, true_and] at z
      obtain ⟨rfl, _⟩ := z
      rw [hh2] at hh3
      simp at hh3
theorem RowB.kept {g m : Nat} {w w' : World} {ms : List Bool} {row : Option Nat} (h : RowB g m w ms) (hg : w.grownBy w' row) (hne : row ≠ some g) : RowB g m w' ms := ⟨h.1, World.ownsRow.kept h.2 hg (.inr (fun e => hne e.symm))⟩
/-- The first k of what is reached, in order. -/
def reachT (ls : List Lnk) (n : Nat) (p : Int) (k : Nat) : List Int := ((List.range k).filter fun j => (rnd p ls n n).getD j false).map fun (j : Nat) => (j : Int)
theorem reachT_yes {ls : List Lnk} {n : Nat} {p : Int} {k : Nat} (h : (rnd p ls n n).getD k false = true) : reachT ls n p (k + 1) = reachT ls n p k ++ [(k : Int)] := by
  unfold reachT
  rw [List.range_succ, List.filter_append, List.map_append, List.filter_cons_of_pos (by simpa using h)]
  rfl
theorem reachT_no {ls : List Lnk} {n : Nat} {p : Int} {k : Nat} (h : (rnd p ls n n).getD k false = false) : reachT ls n p (k + 1) = reachT ls n p k := by
  unfold reachT
  rw [List.range_succ, List.filter_append, List.map_append, List.filter_cons_of_neg (by rw [h]; simp)]
  simp
theorem reachT_len (ls : List Lnk) (n : Nat) (p : Int) (k : Nat) : (reachT ls n p k).length ≤ k := by
  unfold reachT
  rw [List.length_map]
  have := List.length_filter_le (fun j => (rnd p ls n n).getD j false) (List.range k)
  rwa [List.length_range] at this

set_option maxRecDepth 100000 in
set_option maxHeartbeats 4000000 in
theorem sreachedFrom_any (v : Value) (n : Net) (p : Int) (w : World) (h : NetV w v n) :
    Calls Try.prog 32 #[v, .int .i64 p] w fun e w' => ∃ r, e = .returned (.tuple #[r, .bool (reachedFromR1 n p)]) ∧ Own w.heap.size w' r (reachedFromR0 n p) ∧ Below w.heap.size w w' := by
  have CN := Lib.hid (fun (W : World) (hw : Below w.heap.size w W) => sisnet_any v n W (h.below hw))
  have CP := Lib.hid (fun (W : World) (hw : Below w.heap.size w W) => shas_any v n p W (h.below hw))
  have CR := Lib.hid (fun (W : World) (hw : Below w.heap.size w W) (ho : okN n = true) => sreached_any v n p W (h.below hw) ho)
  obtain ⟨r0, hr0⟩ : ∃ r, r = reachedFromR0 n p := ⟨_, rfl⟩
  obtain ⟨r1, hr1⟩ : ∃ r, r = reachedFromR1 n p := ⟨_, rfl⟩
  rw [← hr0, ← hr1]
  obtain ⟨c, d, rfl, hp, hl⟩ := h
  obtain ⟨la, lcap, rfl⟩ := hl.shape
  obtain ⟨pa, pcap, rfl⟩ := hp.shape
  obtain ⟨m, hm⟩ : ∃ m, m = n.progs.length := ⟨_, rfl⟩
  obtain ⟨ll, hll⟩ : ∃ m, m = n.links.length := ⟨_, rfl⟩
  rw [← hm, ← hll] at CN CP CR ⊢
  clear hp hl
  have hb := Lib.hid ((Below.refl w.heap.size w).al (.cells #[.slice pa m pcap, .slice la ll lcap] 32))
  have hH := Lib.hid (hp1 w (.cells #[.slice pa m pcap, .slice la ll lcap] 32))
  obtain ⟨i0, hi, hz0, hz1, hz2⟩ := info_parts info
  cases ho : okN n with
  | false =>
    rw [ho] at CN
    have q1 : reachedFromR1 n p = false := by unfold reachedFromR1; rw [ho]; rfl
    have e1 := Lib.hid (hr1.trans q1)
    have e0 := Lib.hid (hr0.trans (reached_no q1))
    clear ho hr0 hr1 hm hll q1 CR
    go_enter Try.func32, Try.ntmps32
    go_wp2_with (go_at_call 38; with_reducible refine (CN.out _ hb.out).mono ?_; rintro e w2 ⟨rfl, hb1⟩; have HB1 := Lib.hid (hb.out.trans (hb1.mono hb.out.size)); clear hb1)
    go_ret2
    obtain rfl := e1.out
    obtain rfl := e0.out
    exact ⟨_, rfl, own_nil _ _, HB1.out⟩
  | true =>
    rw [ho] at CN
    cases hq : hasP n p with
    | false =>
      rw [hq] at CP
      have q1 : reachedFromR1 n p = false := by unfold reachedFromR1; rw [ho]; exact hq
      have e1 := Lib.hid (hr1.trans q1)
      have e0 := Lib.hid (hr0.trans (reached_no q1))
      clear ho hr0 hr1 hm hll q1 hq CR
      go_enter Try.func32, Try.ntmps32
      go_wp2_with (first | (go_at_call 39; with_reducible refine (CP.out _ HB1.out).mono ?_; rintro e w3 ⟨rfl, hb2⟩; have HB2 := Lib.hid (HB1.out.trans (hb2.mono HB1.out.size)); have hg2 := blk_in G1.out hb2; clear k0 k1 gl; obtain ⟨k0, k1⟩ := cells2 hg2; have gl := lt_of hg2; clear hb2 hg2) | (go_at_call 38; with_reducible refine (CN.out _ hb.out).mono ?_; rintro e w2 ⟨rfl, hb1⟩; have HB1 := Lib.hid (hb.out.trans (hb1.mono hb.out.size)); have G1 := Lib.hid (blk_in hH.out hb1); obtain ⟨k0, k1⟩ := cells2 G1.out; have gl := lt_of G1.out; clear hb1))
      go_ret2
      obtain rfl := e1.out
      obtain rfl := e0.out
      exact ⟨_, rfl, own_nil _ _, HB2.out⟩
    | true =>
      rw [hq] at CP
      have q1 : reachedFromR1 n p = true := by unfold reachedFromR1; rw [ho]; exact hq
      have e1 := Lib.hid (hr1.trans q1)
      have e0 := Lib.hid (show reachT n.links m p m = r0 by rw [hm]; exact (hr0.trans (reached_yes q1)).symm)
      have hm12 : m ≤ 12 := by rw [hm]; exact (okN_len ho).1
      have CR2 := Lib.hid (fun (W : World) (hw : Below w.heap.size w W) => CR.out W hw ho)
      clear ho hr0 hr1 hm hll q1 hq CR
      go_enter Try.func32, Try.ntmps32
      go_wp2_with (first | (go_at_call 39; with_reducible refine (CP.out _ HB1.out).mono ?_; rintro e w3 ⟨rfl, hb2⟩; have HB2 := Lib.hid (HB1.out.trans (hb2.mono HB1.out.size)); have hg2 := blk_in G1.out hb2; clear k0 k1 gl; obtain ⟨k0, k1⟩ := cells2 hg2; have gl := lt_of hg2; clear hb2 hg2) | (go_at_call 38; with_reducible refine (CN.out _ hb.out).mono ?_; rintro e w2 ⟨rfl, hb1⟩; have HB1 := Lib.hid (hb.out.trans (hb1.mono hb.out.size)); have G1 := Lib.hid (blk_in hH.out hb1); obtain ⟨k0, k1⟩ := cells2 G1.out; have gl := lt_of G1.out; clear hb1) | (go_at_call 69; refine (CR2.out _ (by first | with_reducible exact HB2.out | exact HB2.out.al _)).mono ?_; rintro e w4 ⟨rfl, ho4, hb4⟩; rw [al_size] at ho4; have HB4 := Lib.hid (HB2.out.trans ((cr_1 hb4).mono HB2.out.size)); have HR4 := Lib.hid ho4; have HL4 := Lib.hid (Own.below (Own.mono (lo' := w.heap.size) (show Own w3.heap.size _ _ [] from lit0 w3) HB2.out.size) hb4); clear ho4 hb4))
      go_loopw [6, 23] (fun o i wr => ∃ k : Nat, k ≤ m ∧ i = .int .i64 k ∧ Hid (Own w.heap.size wr o (reachT n.links m p k)) ∧ Hid (RowB (w3.heap.size + 1 + 1) m wr (rnd p n.links m m)) ∧ Hid (Below w.heap.size w wr)) (fun _ i _ => m - (intOf i).toNat)
      case atStart => exact ⟨0, Nat.zero_le _, rfl, HL4, HR4, HB4⟩
      case round =>
        clear HL4 HR4 HB4
        obtain ⟨k, hk, rfl, HO, HRB, HB⟩ := hrel
        by_cases hlt : k < m
        · have lk2 : (k : Int) < (m : Int) := by omega
          have ck := (HRB.out.cell hlt).1
          have lr := HRB.out.lt
          obtain ⟨L, hL⟩ : ∃ L, L = reachT n.links m p k := ⟨_, rfl⟩
          rw [← hL] at HO
          have hLk : L.length ≤ k := by rw [hL]; exact reachT_len _ _ _ _
          have HLE := Lib.hid hL
          clear hL
          cases hd : (rnd p n.links m m).getD k false with
          | true =>
            rw [hd] at ck
            have HD := Lib.hid hd
            have hs3 := HB.out.size
            clear hd
            go_wp2_with (at_builtin; refine wpList_append_own_at _ rfl _ _ 36 rfl w.heap.size 3 i0 (.int .i64 0) 1 8 Try.underlying36 hi hz0 hz1 hz2 rfl (by decide) _ _ _ rfl (World.ownsRow.alloc HO.out _) ⟨wr.heap.size, 0, none⟩ 1 1 [.int .i64 k] rfl rfl (one_src _ _) (one_one _) ?c3 ?c4 ?c5 ?_)
            case c3 => unfold maxLen; omega
            case c4 => omega
            case c5 => simp; omega
            intro v' w5 hown hgrow _ hat
            have HR2 := Lib.hid (app_rel HB.out hs3 (Nat.le_refl _) HO.out hown hgrow)
            have HRB2 := Lib.hid (RowB.kept (HRB.out.below ((Below.refl _ _).al _)) hgrow (own_ne_rowB HO.out HRB.out))
            clear hown hgrow hat
            go_wp2_with fail
            go_roundw
            case rel => exact ⟨k + 1, by omega, by go_num, Lib.hid (by rw [reachT_yes HD.out, ← HLE.out]; exact HR2.out.1), HRB2, Lib.hid HR2.out.2⟩
            case measure => simp [intOf]; omega
          | false =>
            rw [hd] at ck
            have HD := Lib.hid hd
            clear hd
            go_wp2_with fail
            go_roundw
            case rel => exact ⟨k + 1, by omega, by go_num, Lib.hid (by rw [reachT_no HD.out, ← HLE.out]; exact HO.out), HRB, HB⟩
            case measure => simp [intOf]; omega
        · have e : k = m := by omega
          subst e
          go_wp2_with fail
          go_ret2
          obtain rfl := e1.out
          exact ⟨_, rfl, by rw [← e0.out]; exact HO.out, HB.out⟩
end Go.Proofs.Ythniafpkkgcjnab
