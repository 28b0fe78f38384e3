/-
  What the model's l3To, l3From, l3Ends answer. No statement of the seat is proved here.
  What the model's l3Ends answers. No statement of the seat is proved here.
  What the model's IsNetwork answers. No statement of the seat is proved here.
-/
import Derived.Test.YtkeoefbkeommhaaNetA
import Derived.Test.YtkeoefbkeommhaaIsNet
namespace Go.Proofs.Ytkeoefbkeommhaa
open Go.RowKit

theorem atE_m1 {g : Lnk → End} {ls : List Lnk} {e : End} (h1 : -1 ≤ atE g ls e) (h2 : ¬ 0 ≤ atE g ls e) : atE g ls e = -1 := by omega

set_option maxRecDepth 100000 in
set_option maxHeartbeats 4000000 in
theorem sto_any (v : Value) (n : Net) (p port : Int) (w : World) (h : NetV w v n) :
    Calls Try.prog 104 #[v, .int .i64 p, .int .i64 port] w fun e w' => e = .returned (.int .i64 (atE Lnk.tgt n.links (p, port))) ∧ Below w.heap.size w w' := by
  obtain ⟨c, d, rfl, hp, hl⟩ := h
  obtain ⟨ps, ls⟩ := n
  simp only [] at hp hl ⊢
  clear hp
  have hll := hl.len
  have HL := Lib.hid hl
  obtain ⟨la, lcap, rfl, _, _, _, hrest⟩ := hl
  obtain ⟨n, hn⟩ : ∃ n, n = ls.length := ⟨_, rfl⟩
  obtain ⟨r, hr⟩ : ∃ r, r = atE Lnk.tgt ls (p, port) := ⟨_, rfl⟩
  rw [← hr]
  rw [← hn] at hll ⊢
  have HN := Lib.hid hn
  have HR := Lib.hid hr
  clear hn hr
  have hb := Lib.hid ((Below.refl w.heap.size w).al (.cells #[c, .slice la n lcap] 31))
  go_enter Try.func104, Try.ntmps104
  go_wp2_with fail
  go_loopw [7, 13] (fun a i wr => ∃ (k : Nat) (z : Int), k ≤ n ∧ i = .int .i64 k ∧ a = .int .i64 z ∧ Hid (z = atE Lnk.tgt (ls.take k) (p, port)) ∧ -1 ≤ z ∧ Hid (Below w.heap.size w wr)) (fun _ i _ => n - (intOf i).toNat)
  case atStart => exact ⟨0, -1, Nat.zero_le _, rfl, rfl, Lib.hid (by rw [List.take_zero, atE_nil]), by omega, Lib.hid hb.out⟩
  case round =>
    obtain ⟨k, z, hk, rfl, rfl, HZ, hz1, HB⟩ := hrel
    by_cases hlt : k < n
    · rcases hrest with rfl | ⟨b, off, rfl, hbl, hcell⟩
      · exact absurd hlt (by have := HN.out; simp at this; omega)
      · obtain ⟨x, hx⟩ : ∃ x, ls[k]? = some x := ⟨_, List.getElem?_eq_getElem (by rw [← HN.out]; exact hlt)⟩
        obtain ⟨u, e0, e1, e2, e3, e4, _, e5⟩ := hcell k x hx
        obtain ⟨ua, uc, e6⟩ := e5.shape
        have c0 := (HB.out.cell (p := ⟨b, off + k * 5, none⟩) hbl).trans e0
        have c1 := (HB.out.cell (p := ⟨b, off + k * 5 + 1, none⟩) hbl).trans e1
        have c2 := (HB.out.cell (p := ⟨b, off + k * 5 + 2, none⟩) hbl).trans e2
        have c3 := (HB.out.cell (p := ⟨b, off + k * 5 + 3, none⟩) hbl).trans e3
        have c4 := (HB.out.cell (p := ⟨b, off + k * 5 + 4, none⟩) hbl).trans e4
        have hbl2 : b < wr.heap.size := Nat.lt_of_lt_of_le hbl HB.out.size
        have HX := Lib.hid hx
        clear hx hcell e0 e1 e2 e3 e4 e5
        obtain ⟨xf, xo, xt, xi, xk⟩ := x
        simp only [] at c0 c1 c2 c3 c4 e6
        obtain ⟨ul, hul⟩ : ∃ z, z = xk.length := ⟨_, rfl⟩
        rw [← hul] at e6
        clear hul
        subst e6
        have HB5 := Lib.hid (HB.out.trans (((Below.refl wr.heap.size wr).al (.cells #[.int .i64 xf, .int .i64 xo, .int .i64 xt, .int .i64 xi, .slice ua ul uc] 68)).mono HB.out.size))
        by_cases h1 : xt = p
        · by_cases h2 : xi = port
          · have HE := Lib.hid (show Lnk.tgt ⟨xf, xo, xt, xi, xk⟩ = (p, port) by rw [← h1, ← h2]; rfl)
            subst h1
            subst h2
            by_cases h3 : 0 ≤ z
            · have d1 : decide (z ≥ 0) = true := decide_eq_true h3
              have d2 : decide (0 ≤ z) = true := decide_eq_true h3
              have HT := Lib.hid (atE_two HX.out HE.out (by rw [← HZ.out]; exact h3))
              go_wp2_with fail
              go_ret
              have hh := HR.out.trans HT.out
              subst hh
              exact ⟨rfl, HB5.out⟩
            · have d1 : decide (z ≥ 0) = false := decide_eq_false h3
              have d2 : decide (0 ≤ z) = false := decide_eq_false h3
              have HT := Lib.hid (atE_hit HX.out HE.out (by rw [← HZ.out]; omega))
              go_wp2_with fail
              go_roundw
              case rel => exact ⟨k + 1, k, by omega, by go_num, rfl, Lib.hid HT.out.symm, by omega, HB5⟩
              case measure => simp [intOf]; omega
          · have HE := Lib.hid (show Lnk.tgt ⟨xf, xo, xt, xi, xk⟩ ≠ (p, port) from fun e => h2 (congrArg Prod.snd e))
            subst h1
            have d1 : (xi == port) = false := by simpa using h2
            go_wp2_with fail
            go_roundw
            case rel => exact ⟨k + 1, z, by omega, by go_num, rfl, Lib.hid (by rw [atE_skip HX.out HE.out]; exact HZ.out), hz1, HB5⟩
            case measure => simp [intOf]; omega
        · have HE := Lib.hid (show Lnk.tgt ⟨xf, xo, xt, xi, xk⟩ ≠ (p, port) from fun e => h1 (congrArg Prod.fst e))
          have d1 : (xt == p) = false := by simpa using h1
          go_wp2_with fail
          go_roundw
          case rel => exact ⟨k + 1, z, by omega, by go_num, rfl, Lib.hid (by rw [atE_skip HX.out HE.out]; exact HZ.out), hz1, HB5⟩
          case measure => simp [intOf]; omega
    · have hh : z = r := by
        rw [HZ.out, HR.out, List.take_of_length_le (by rw [← HN.out]; omega)]
      subst hh
      go_wp2_with fail
      go_ret
      exact ⟨rfl, HB.out⟩

set_option maxRecDepth 100000 in
set_option maxHeartbeats 4000000 in
theorem sfrom_any (v : Value) (n : Net) (p port : Int) (w : World) (h : NetV w v n) :
    Calls Try.prog 105 #[v, .int .i64 p, .int .i64 port] w fun e w' => e = .returned (.int .i64 (atE Lnk.src n.links (p, port))) ∧ Below w.heap.size w w' := by
  obtain ⟨c, d, rfl, hp, hl⟩ := h
  obtain ⟨ps, ls⟩ := n
  simp only [] at hp hl ⊢
  clear hp
  have hll := hl.len
  have HL := Lib.hid hl
  obtain ⟨la, lcap, rfl, _, _, _, hrest⟩ := hl
  obtain ⟨n, hn⟩ : ∃ n, n = ls.length := ⟨_, rfl⟩
  obtain ⟨r, hr⟩ : ∃ r, r = atE Lnk.src ls (p, port) := ⟨_, rfl⟩
  rw [← hr]
  rw [← hn] at hll ⊢
  have HN := Lib.hid hn
  have HR := Lib.hid hr
  clear hn hr
  have hb := Lib.hid ((Below.refl w.heap.size w).al (.cells #[c, .slice la n lcap] 31))
  go_enter Try.func105, Try.ntmps105
  go_wp2_with fail
  go_loopw [7, 13] (fun a i wr => ∃ (k : Nat) (z : Int), k ≤ n ∧ i = .int .i64 k ∧ a = .int .i64 z ∧ Hid (z = atE Lnk.src (ls.take k) (p, port)) ∧ -1 ≤ z ∧ Hid (Below w.heap.size w wr)) (fun _ i _ => n - (intOf i).toNat)
  case atStart => exact ⟨0, -1, Nat.zero_le _, rfl, rfl, Lib.hid (by rw [List.take_zero, atE_nil]), by omega, Lib.hid hb.out⟩
  case round =>
    obtain ⟨k, z, hk, rfl, rfl, HZ, hz1, HB⟩ := hrel
    by_cases hlt : k < n
    · rcases hrest with rfl | ⟨b, off, rfl, hbl, hcell⟩
      · exact absurd hlt (by have := HN.out; simp at this; omega)
      · obtain ⟨x, hx⟩ : ∃ x, ls[k]? = some x := ⟨_, List.getElem?_eq_getElem (by rw [← HN.out]; exact hlt)⟩
        obtain ⟨u, e0, e1, e2, e3, e4, _, e5⟩ := hcell k x hx
        obtain ⟨ua, uc, e6⟩ := e5.shape
        have c0 := (HB.out.cell (p := ⟨b, off + k * 5, none⟩) hbl).trans e0
        have c1 := (HB.out.cell (p := ⟨b, off + k * 5 + 1, none⟩) hbl).trans e1
        have c2 := (HB.out.cell (p := ⟨b, off + k * 5 + 2, none⟩) hbl).trans e2
        have c3 := (HB.out.cell (p := ⟨b, off + k * 5 + 3, none⟩) hbl).trans e3
        have c4 := (HB.out.cell (p := ⟨b, off + k * 5 + 4, none⟩) hbl).trans e4
        have hbl2 : b < wr.heap.size := Nat.lt_of_lt_of_le hbl HB.out.size
        have HX := Lib.hid hx
        clear hx hcell e0 e1 e2 e3 e4 e5
        obtain ⟨xf, xo, xt, xi, xk⟩ := x
        simp only [] at c0 c1 c2 c3 c4 e6
        obtain ⟨ul, hul⟩ : ∃ z, z = xk.length := ⟨_, rfl⟩
        rw [← hul] at e6
        clear hul
        subst e6
        have HB5 := Lib.hid (HB.out.trans (((Below.refl wr.heap.size wr).al (.cells #[.int .i64 xf, .int .i64 xo, .int .i64 xt, .int .i64 xi, .slice ua ul uc] 68)).mono HB.out.size))
        by_cases h1 : xf = p
        · by_cases h2 : xo = port
          · have HE := Lib.hid (show Lnk.src ⟨xf, xo, xt, xi, xk⟩ = (p, port) by rw [← h1, ← h2]; rfl)
            subst h1
            subst h2
            by_cases h3 : 0 ≤ z
            · have d1 : decide (z ≥ 0) = true := decide_eq_true h3
              have d2 : decide (0 ≤ z) = true := decide_eq_true h3
              have HT := Lib.hid (atE_two HX.out HE.out (by rw [← HZ.out]; exact h3))
              go_wp2_with fail
              go_ret
              have hh := HR.out.trans HT.out
              subst hh
              exact ⟨rfl, HB5.out⟩
            · have d1 : decide (z ≥ 0) = false := decide_eq_false h3
              have d2 : decide (0 ≤ z) = false := decide_eq_false h3
              have HT := Lib.hid (atE_hit HX.out HE.out (by rw [← HZ.out]; omega))
              go_wp2_with fail
              go_roundw
              case rel => exact ⟨k + 1, k, by omega, by go_num, rfl, Lib.hid HT.out.symm, by omega, HB5⟩
              case measure => simp [intOf]; omega
          · have HE := Lib.hid (show Lnk.src ⟨xf, xo, xt, xi, xk⟩ ≠ (p, port) from fun e => h2 (congrArg Prod.snd e))
            subst h1
            have d1 : (xo == port) = false := by simpa using h2
            go_wp2_with fail
            go_roundw
            case rel => exact ⟨k + 1, z, by omega, by go_num, rfl, Lib.hid (by rw [atE_skip HX.out HE.out]; exact HZ.out), hz1, HB5⟩
            case measure => simp [intOf]; omega
        · have HE := Lib.hid (show Lnk.src ⟨xf, xo, xt, xi, xk⟩ ≠ (p, port) from fun e => h1 (congrArg Prod.fst e))
          have d1 : (xf == p) = false := by simpa using h1
          go_wp2_with fail
          go_roundw
          case rel => exact ⟨k + 1, z, by omega, by go_num, rfl, Lib.hid (by rw [atE_skip HX.out HE.out]; exact HZ.out), hz1, HB5⟩
          case measure => simp [intOf]; omega
    · have hh : z = r := by
        rw [HZ.out, HR.out, List.take_of_length_le (by rw [← HN.out]; omega)]
      subst hh
      go_wp2_with fail
      go_ret
      exact ⟨rfl, HB.out⟩

theorem endsL_no1 {ps : List Prg} {l : Lnk} (h : l.frm = -1 ∧ l.to = -1) : endsL ps l = false := by unfold endsL; simp [h.1, h.2]
theorem endsL_no2 {ps : List Prg} {l : Lnk} (h : ¬ (-1 ≤ l.frm ∧ l.frm ≤ (ps.length : Int) - 1)) : endsL ps l = false := by unfold endsL; rw [decide_eq_false h]; simp
theorem endsL_no3 {ps : List Prg} {l : Lnk} (h : ¬ (-1 ≤ l.to ∧ l.to ≤ (ps.length : Int) - 1)) : endsL ps l = false := by unfold endsL; rw [decide_eq_false h]; simp
theorem endsL_go {ps : List Prg} {l : Lnk} {o i : Int} (h0 : ¬ (l.frm = -1 ∧ l.to = -1)) (h1 : -1 ≤ l.frm ∧ l.frm ≤ (ps.length : Int) - 1) (h2 : -1 ≤ l.to ∧ l.to ≤ (ps.length : Int) - 1)
    (ho : (if 0 ≤ l.frm then (match ps[l.frm.toNat]? with | some p => p.outs | none => 1) else 1) = o) (hi : (if 0 ≤ l.to then (match ps[l.to.toNat]? with | some p => p.ins | none => 1) else 1) = i) :
    endsL ps l = (inB 0 (o - 1) l.out && inB 0 (i - 1) l.inn) := by
  unfold inB
  rw [show endsL ps l = (!(decide (l.frm = -1) && decide (l.to = -1)) && decide (-1 ≤ l.frm ∧ l.frm ≤ (ps.length : Int) - 1) && decide (-1 ≤ l.to ∧ l.to ≤ (ps.length : Int) - 1) &&
    decide (0 ≤ l.out ∧ l.out < (if 0 ≤ l.frm then (match ps[l.frm.toNat]? with | some p => p.outs | none => 1) else 1)) &&
    decide (0 ≤ l.inn ∧ l.inn < (if 0 ≤ l.to then (match ps[l.to.toNat]? with | some p => p.ins | none => 1) else 1))) from rfl]
  rw [decide_eq_true h1, decide_eq_true h2, ho, hi]
  have e1 : (decide (l.frm = -1) && decide (l.to = -1)) = false := by
    rw [Bool.and_eq_false_iff, decide_eq_false_iff_not, decide_eq_false_iff_not]
    by_cases q : l.frm = -1
    · exact .inr (fun z => h0 ⟨q, z⟩)
    · exact .inl q
  rw [e1]
  have e2 : decide (0 ≤ l.out ∧ l.out < o) = decide (0 ≤ l.out ∧ l.out ≤ o - 1) := by congr 1; rw [eq_iff_iff]; omega
  have e3 : decide (0 ≤ l.inn ∧ l.inn < i) = decide (0 ≤ l.inn ∧ l.inn ≤ i - 1) := by congr 1; rw [eq_iff_iff]; omega
  rw [e2, e3]
  rfl
theorem at_prog {ps : List Prg} {k : Nat} {x : Prg} {f : Prg → Int} (hx : ps[k]? = some x) : (if (0 : Int) ≤ (k : Int) then (match ps[(k : Int).toNat]? with | some p => f p | none => 1) else 1) = f x := by
  rw [if_pos (by omega), Int.toNat_natCast, hx]
theorem at_none {ps : List Prg} {z : Int} {f : Prg → Int} (hz : ¬ 0 ≤ z) : (if (0 : Int) ≤ z then (match ps[z.toNat]? with | some p => f p | none => 1) else 1) = 1 := if_neg hz

theorem inb_is {f : Nat} {vs : Array Value} {w : World} {b c : Bool} (h : Calls Try.prog f vs w fun e w' => e = .returned (.bool b) ∧ w = w') (hb : b = c) : Calls Try.prog f vs w fun e w' => e = .returned (.bool c) ∧ w = w' := by
  subst hb; exact h

set_option maxRecDepth 100000 in
set_option maxHeartbeats 8000000 in
theorem sends_any (v : Value) (n : Net) (xf xo xt xi : Int) (xk : List Int) (u : Value) (w : World) (h : NetV w v n) (hall : n.progs.all okP = true) (hlen : n.progs.length ≤ 12) :
    Calls Try.prog 102 #[v, .agg #[.int .i64 xf, .int .i64 xo, .int .i64 xt, .int .i64 xi, u]] w fun e w' => e = .returned (.bool (endsL n.progs ⟨xf, xo, xt, xi, xk⟩)) ∧ Below w.heap.size w w' := by
  obtain ⟨c, d, rfl, hp, hl⟩ := h
  obtain ⟨ps, ls⟩ := n
  simp only [] at hp hl hall hlen ⊢
  clear hl
  obtain ⟨pa, pcap, rfl, _, _, _, hrest⟩ := hp
  obtain ⟨m, hm⟩ : ∃ m, m = ps.length := ⟨_, rfl⟩
  obtain ⟨r, hr⟩ : ∃ r, r = endsL ps ⟨xf, xo, xt, xi, xk⟩ := ⟨_, rfl⟩
  rw [← hr]
  rw [← hm] at hlen ⊢
  have HM := Lib.hid hm
  have HR := Lib.hid hr
  have HALL := Lib.hid hall
  clear hm hr hall
  have wm : wrap64 ((m : Int) - 1) = (m : Int) - 1 := IntWalk.wrap64_in _ (by omega)
  have hb := Lib.hid (((Below.refl w.heap.size w).al (.cells #[.slice pa m pcap, d] 31)).al (.cells #[.int .i64 xf, .int .i64 xo, .int .i64 xt, .int .i64 xi, u] 68))
  by_cases h0 : xf = -1 ∧ xt = -1
  · obtain ⟨rfl, rfl⟩ := h0
    go_enter Try.func102, Try.ntmps102
    go_wp2_with fail
    go_ret
    exact ⟨ret_bool (HR.out.trans (endsL_no1 ⟨rfl, rfl⟩)), hb.out⟩
  cases q1 : inB (-1) ((m : Int) - 1) xf with
  | false =>
    have HE := Lib.hid (HR.out.trans (endsL_no2 (l := ⟨xf, xo, xt, xi, xk⟩) (by rw [← HM.out]; exact inB_f q1)))
    have C1 := Lib.hid (fun W => inb_is (sin_any xf (-1) ((m : Int) - 1) W) q1)
    by_cases g1 : xf = -1
    · subst g1
      have d2 : (xt == -1) = false := by simp; omega
      clear h0
      go_enter Try.func102, Try.ntmps102
      go_wp2_with (go_at_call 46; with_reducible refine (C1.out _).mono ?_; rintro e w' ⟨rfl, rfl⟩)
      go_ret
      exact ⟨ret_bool HE.out, hb.out⟩
    · have d1 : (xf == -1) = false := by simpa using g1
      clear h0
      go_enter Try.func102, Try.ntmps102
      go_wp2_with (go_at_call 46; with_reducible refine (C1.out _).mono ?_; rintro e w' ⟨rfl, rfl⟩)
      go_ret
      exact ⟨ret_bool HE.out, hb.out⟩
  | true =>
    have C1 := Lib.hid (fun W => inb_is (sin_any xf (-1) ((m : Int) - 1) W) q1)
    cases q2 : inB (-1) ((m : Int) - 1) xt with
    | false =>
      have HE := Lib.hid (HR.out.trans (endsL_no3 (l := ⟨xf, xo, xt, xi, xk⟩) (by rw [← HM.out]; exact inB_f q2)))
      have C2 := Lib.hid (fun W => inb_is (sin_any xt (-1) ((m : Int) - 1) W) q2)
      by_cases g1 : xf = -1
      · subst g1
        have d2 : (xt == -1) = false := by simp; omega
        clear h0
        go_enter Try.func102, Try.ntmps102
        go_wp2_with (first | (go_at_call 46; with_reducible refine (C2.out _).mono ?_; rintro e w' ⟨rfl, rfl⟩) | (go_at_call 46; with_reducible refine (C1.out _).mono ?_; rintro e w' ⟨rfl, rfl⟩))
        go_ret
        exact ⟨ret_bool HE.out, hb.out⟩
      · have d1 : (xf == -1) = false := by simpa using g1
        clear h0
        go_enter Try.func102, Try.ntmps102
        go_wp2_with (first | (go_at_call 46; with_reducible refine (C2.out _).mono ?_; rintro e w' ⟨rfl, rfl⟩) | (go_at_call 46; with_reducible refine (C1.out _).mono ?_; rintro e w' ⟨rfl, rfl⟩))
        go_ret
        exact ⟨ret_bool HE.out, hb.out⟩
    | true =>
      have C2 := Lib.hid (fun W => inb_is (sin_any xt (-1) ((m : Int) - 1) W) q2)
      have b1 := inB_t q1
      have b2 := inB_t q2
      have HB1 := Lib.hid (show -1 ≤ xf ∧ xf ≤ (ps.length : Int) - 1 by rw [← HM.out]; exact b1)
      have HB2 := Lib.hid (show -1 ≤ xt ∧ xt ≤ (ps.length : Int) - 1 by rw [← HM.out]; exact b2)
      have HH := Lib.hid h0
      clear q1 q2
      by_cases g1 : 0 ≤ xf
      · by_cases g2 : 0 ≤ xt
        · skip
          obtain ⟨kf, rfl⟩ : ∃ k : Nat, xf = k := ⟨xf.toNat, by omega⟩
          obtain ⟨kt, rfl⟩ : ∃ k : Nat, xt = k := ⟨xt.toNat, by omega⟩
          rcases hrest with hnil | ⟨b, off, rfl, hbl, hcell⟩
          · exfalso; have := HM.out; rw [hnil] at this; simp at this; omega
          obtain ⟨x, hx⟩ : ∃ x, ps[kf]? = some x := ⟨_, List.getElem?_eq_getElem (by rw [← HM.out]; omega)⟩
          obtain ⟨_, _, f1, _, _⟩ := hcell kf x hx
          have ho := Lib.hid (at_prog (f := Prg.outs) hx)
          have hq := okP_outs (all_get HALL.out hx)
          obtain ⟨ov, hov⟩ : ∃ z, z = x.outs := ⟨_, rfl⟩
          rw [← hov] at ho hq f1
          clear hx hov
          have lf : kf < m := by omega
          have lf2 : (kf : Int) < (m : Int) := by omega
          have wo : wrap64 (ov - 1) = ov - 1 := IntWalk.wrap64_in _ (by omega)
          have df1 : ((kf : Int) == -1) = false := beq_eq_false_iff_ne.2 (by omega)
          obtain ⟨y, hy⟩ : ∃ x, ps[kt]? = some x := ⟨_, List.getElem?_eq_getElem (by rw [← HM.out]; omega)⟩
          obtain ⟨_, t0, _, _, _⟩ := hcell kt y hy
          have hi := Lib.hid (at_prog (f := Prg.ins) hy)
          have hq2 := okP_ins (all_get HALL.out hy)
          obtain ⟨iv, hiv⟩ : ∃ z, z = y.ins := ⟨_, rfl⟩
          rw [← hiv] at hi hq2 t0
          clear hy hiv
          have lt : kt < m := by omega
          have lt2 : (kt : Int) < (m : Int) := by omega
          have wi : wrap64 (iv - 1) = iv - 1 := IntWalk.wrap64_in _ (by omega)
          have dt1 : ((kt : Int) == -1) = false := beq_eq_false_iff_ne.2 (by omega)
          have hbl1 : b < w.heap.size + 1 := by omega
          have hbl2 : b < w.heap.size + 1 + 1 := by omega
          clear hcell
          have HE := Lib.hid (HR.out.trans (endsL_go (l := ⟨kf, xo, kt, xi, xk⟩) HH.out HB1.out HB2.out ho.out hi.out))
          clear h0 b1 b2
          cases q3 : inB 0 (ov - 1) xo with
          | false =>
            have C3 := Lib.hid (fun W => inb_is (sin_any xo 0 (ov - 1) W) q3)
            go_enter Try.func102, Try.ntmps102
            go_wp2_with (first | (go_at_call 46; with_reducible refine (C3.out _).mono ?_; rintro e w' ⟨rfl, rfl⟩) | (go_at_call 46; with_reducible refine (C2.out _).mono ?_; rintro e w' ⟨rfl, rfl⟩) | (go_at_call 46; with_reducible refine (C1.out _).mono ?_; rintro e w' ⟨rfl, rfl⟩))
            go_ret
            exact ⟨ret_bool (HE.out.trans (by rw [q3]; rfl)), hb.out⟩
          | true =>
            have C3 := Lib.hid (fun W => inb_is (sin_any xo 0 (ov - 1) W) q3)
            have C4 := Lib.hid (fun W => sin_any xi 0 (iv - 1) W)
            go_enter Try.func102, Try.ntmps102
            go_wp2_with (first | (go_at_call 46; with_reducible refine (C4.out _).mono ?_; rintro e w' ⟨rfl, rfl⟩) | (go_at_call 46; with_reducible refine (C3.out _).mono ?_; rintro e w' ⟨rfl, rfl⟩) | (go_at_call 46; with_reducible refine (C2.out _).mono ?_; rintro e w' ⟨rfl, rfl⟩) | (go_at_call 46; with_reducible refine (C1.out _).mono ?_; rintro e w' ⟨rfl, rfl⟩))
            go_ret
            exact ⟨ret_bool (HE.out.trans (by rw [q3]; rfl)), hb.out⟩
        · skip
          obtain ⟨kf, rfl⟩ : ∃ k : Nat, xf = k := ⟨xf.toNat, by omega⟩
          obtain rfl : xt = -1 := by omega
          have hi := Lib.hid (at_none (ps := ps) (f := Prg.ins) (show ¬ (0 : Int) ≤ -1 by omega))
          rcases hrest with hnil | ⟨b, off, rfl, hbl, hcell⟩
          · exfalso; have := HM.out; rw [hnil] at this; simp at this; omega
          obtain ⟨x, hx⟩ : ∃ x, ps[kf]? = some x := ⟨_, List.getElem?_eq_getElem (by rw [← HM.out]; omega)⟩
          obtain ⟨_, _, f1, _, _⟩ := hcell kf x hx
          have ho := Lib.hid (at_prog (f := Prg.outs) hx)
          have hq := okP_outs (all_get HALL.out hx)
          obtain ⟨ov, hov⟩ : ∃ z, z = x.outs := ⟨_, rfl⟩
          rw [← hov] at ho hq f1
          clear hx hov
          have lf : kf < m := by omega
          have lf2 : (kf : Int) < (m : Int) := by omega
          have wo : wrap64 (ov - 1) = ov - 1 := IntWalk.wrap64_in _ (by omega)
          have df1 : ((kf : Int) == -1) = false := beq_eq_false_iff_ne.2 (by omega)
          have hbl1 : b < w.heap.size + 1 := by omega
          have hbl2 : b < w.heap.size + 1 + 1 := by omega
          clear hcell
          have HE := Lib.hid (HR.out.trans (endsL_go (l := ⟨kf, xo, -1, xi, xk⟩) HH.out HB1.out HB2.out ho.out hi.out))
          clear h0 b1 b2
          cases q3 : inB 0 (ov - 1) xo with
          | false =>
            have C3 := Lib.hid (fun W => inb_is (sin_any xo 0 (ov - 1) W) q3)
            go_enter Try.func102, Try.ntmps102
            go_wp2_with (first | (go_at_call 46; with_reducible refine (C3.out _).mono ?_; rintro e w' ⟨rfl, rfl⟩) | (go_at_call 46; with_reducible refine (C2.out _).mono ?_; rintro e w' ⟨rfl, rfl⟩) | (go_at_call 46; with_reducible refine (C1.out _).mono ?_; rintro e w' ⟨rfl, rfl⟩))
            go_ret
            exact ⟨ret_bool (HE.out.trans (by rw [show (1 : Int) - 1 = 0 by omega]; rw [q3]; rfl)), hb.out⟩
          | true =>
            have C3 := Lib.hid (fun W => inb_is (sin_any xo 0 (ov - 1) W) q3)
            have C4 := Lib.hid (fun W => sin_any xi 0 (0) W)
            go_enter Try.func102, Try.ntmps102
            go_wp2_with (first | (go_at_call 46; with_reducible refine (C4.out _).mono ?_; rintro e w' ⟨rfl, rfl⟩) | (go_at_call 46; with_reducible refine (C3.out _).mono ?_; rintro e w' ⟨rfl, rfl⟩) | (go_at_call 46; with_reducible refine (C2.out _).mono ?_; rintro e w' ⟨rfl, rfl⟩) | (go_at_call 46; with_reducible refine (C1.out _).mono ?_; rintro e w' ⟨rfl, rfl⟩))
            go_ret
            exact ⟨ret_bool (HE.out.trans (by rw [show (1 : Int) - 1 = 0 by omega]; rw [q3]; rfl)), hb.out⟩
      · by_cases g2 : 0 ≤ xt
        · skip
          obtain rfl : xf = -1 := by omega
          have ho := Lib.hid (at_none (ps := ps) (f := Prg.outs) (show ¬ (0 : Int) ≤ -1 by omega))
          obtain ⟨kt, rfl⟩ : ∃ k : Nat, xt = k := ⟨xt.toNat, by omega⟩
          rcases hrest with hnil | ⟨b, off, rfl, hbl, hcell⟩
          · exfalso; have := HM.out; rw [hnil] at this; simp at this; omega
          obtain ⟨y, hy⟩ : ∃ x, ps[kt]? = some x := ⟨_, List.getElem?_eq_getElem (by rw [← HM.out]; omega)⟩
          obtain ⟨_, t0, _, _, _⟩ := hcell kt y hy
          have hi := Lib.hid (at_prog (f := Prg.ins) hy)
          have hq2 := okP_ins (all_get HALL.out hy)
          obtain ⟨iv, hiv⟩ : ∃ z, z = y.ins := ⟨_, rfl⟩
          rw [← hiv] at hi hq2 t0
          clear hy hiv
          have lt : kt < m := by omega
          have lt2 : (kt : Int) < (m : Int) := by omega
          have wi : wrap64 (iv - 1) = iv - 1 := IntWalk.wrap64_in _ (by omega)
          have dt1 : ((kt : Int) == -1) = false := beq_eq_false_iff_ne.2 (by omega)
          have hbl1 : b < w.heap.size + 1 := by omega
          have hbl2 : b < w.heap.size + 1 + 1 := by omega
          clear hcell
          have HE := Lib.hid (HR.out.trans (endsL_go (l := ⟨-1, xo, kt, xi, xk⟩) HH.out HB1.out HB2.out ho.out hi.out))
          clear h0 b1 b2
          cases q3 : inB 0 (0) xo with
          | false =>
            have C3 := Lib.hid (fun W => inb_is (sin_any xo 0 (0) W) q3)
            go_enter Try.func102, Try.ntmps102
            go_wp2_with (first | (go_at_call 46; with_reducible refine (C3.out _).mono ?_; rintro e w' ⟨rfl, rfl⟩) | (go_at_call 46; with_reducible refine (C2.out _).mono ?_; rintro e w' ⟨rfl, rfl⟩) | (go_at_call 46; with_reducible refine (C1.out _).mono ?_; rintro e w' ⟨rfl, rfl⟩))
            go_ret
            exact ⟨ret_bool (HE.out.trans (by rw [show (1 : Int) - 1 = 0 by omega]; rw [q3]; rfl)), hb.out⟩
          | true =>
            have C3 := Lib.hid (fun W => inb_is (sin_any xo 0 (0) W) q3)
            have C4 := Lib.hid (fun W => sin_any xi 0 (iv - 1) W)
            go_enter Try.func102, Try.ntmps102
            go_wp2_with (first | (go_at_call 46; with_reducible refine (C4.out _).mono ?_; rintro e w' ⟨rfl, rfl⟩) | (go_at_call 46; with_reducible refine (C3.out _).mono ?_; rintro e w' ⟨rfl, rfl⟩) | (go_at_call 46; with_reducible refine (C2.out _).mono ?_; rintro e w' ⟨rfl, rfl⟩) | (go_at_call 46; with_reducible refine (C1.out _).mono ?_; rintro e w' ⟨rfl, rfl⟩))
            go_ret
            exact ⟨ret_bool (HE.out.trans (by rw [show (1 : Int) - 1 = 0 by omega]; rw [q3]; rfl)), hb.out⟩
        · exact absurd ⟨by omega, by omega⟩ h0

def q1 (ls : List Lnk) (e : End) : Bool := decide (0 ≤ atE Lnk.tgt ls e)
def q2 (ls : List Lnk) (e : End) : Bool := decide (0 ≤ atE Lnk.src ls e)
theorem okN2_head {n : Net} (h : headL n = false) : okN n = false := okN_head h
theorem okN2_link {ps : List Prg} {ls : List Lnk} (h : ls.all (fun l => endsL ps l && isS l.tok) = false) : okN ⟨ps, ls⟩ = false := by rw [← okN2_eq]; unfold okN2; rw [h]; simp
theorem okN2_in {ps : List Prg} {ls : List Lnk} {e : End} (he : e ∈ ports Prg.ins ps) (h : q1 ls e = false) : okN ⟨ps, ls⟩ = false := by
  rw [← okN2_eq]; unfold okN2
  rw [show (ports Prg.ins ps).all (fun e => decide (0 ≤ atE Lnk.tgt ls e)) = false from List.all_eq_false.2 ⟨e, he, by have := h; unfold q1 at this; simpa using this⟩]; simp
theorem okN2_out {ps : List Prg} {ls : List Lnk} {e : End} (he : e ∈ ports Prg.outs ps) (h : q2 ls e = false) : okN ⟨ps, ls⟩ = false := by
  rw [← okN2_eq]; unfold okN2
  rw [show (ports Prg.outs ps).all (fun e => decide (0 ≤ atE Lnk.src ls e)) = false from List.all_eq_false.2 ⟨e, he, by have := h; unfold q2 at this; simpa using this⟩]; simp
theorem okN2_yes {ps : List Prg} {ls : List Lnk} (h : headL ⟨ps, ls⟩ = true) (h1 : ls.all (fun l => endsL ps l && isS l.tok) = true) (h2 : (ports Prg.ins ps).all (q1 ls) = true) (h3 : (ports Prg.outs ps).all (q2 ls) = true) : okN ⟨ps, ls⟩ = true := by
  rw [← okN2_eq]; unfold okN2
  rw [h, h1]
  have e1 : (ports Prg.ins ps).all (fun e => decide (0 ≤ atE Lnk.tgt ls e)) = true := h2
  have e2 : (ports Prg.outs ps).all (fun e => decide (0 ≤ atE Lnk.src ls e)) = true := h3
  rw [e1, e2]; rfl
theorem port_mem {f : Prg → Int} {ps : List Prg} {k j : Nat} {x : Prg} (hx : ps[k]? = some x) (hj : (j : Int) < f x) : ((k : Int), (j : Int)) ∈ ports f ps := mem_ports.2 ⟨k, x, hx, rfl, by simp only []; omega, hj⟩
theorem ports_all {f : Prg → Int} {ps : List Prg} {q : End → Bool} {k : Nat} {x : Prg} (hx : ps[k]? = some x) (ha : (portsFrom f 0 (ps.take k)).all q = true) (hb : ((List.range (f x).toNat).map fun (j : Nat) => ((k : Int), (j : Int))).all q = true) :
    (portsFrom f 0 (ps.take (k + 1))).all q = true := by rw [portsFrom_step hx, List.all_append, ha, hb]; rfl
theorem range_all {q : End → Bool} {k j : Nat} (ha : ((List.range j).map fun (j : Nat) => ((k : Int), (j : Int))).all q = true) (hb : q ((k : Int), (j : Int)) = true) : ((List.range (j + 1)).map fun (j : Nat) => ((k : Int), (j : Int))).all q = true := by
  rw [range_step, List.all_append, ha]; simp [hb]

set_option maxRecDepth 100000 in
set_option maxHeartbeats 8000000 in
theorem sisnet_any (v : Value) (n : Net) (w : World) (h : NetV w v n) :
    Calls Try.prog 45 #[v] w fun e w' => e = .returned (.bool (okN n)) ∧ Below w.heap.size w w' := by
  obtain ⟨c, d, rfl, hp, hl⟩ := h
  obtain ⟨ps, ls⟩ := n
  simp only [] at hp hl ⊢
  have HP := Lib.hid hp
  have HL := Lib.hid hl
  have hpl := hp.len
  have hll := hl.len
  obtain ⟨pa, pcap, rfl, _, _, _, hrest⟩ := hp
  obtain ⟨la, lcap, rfl, _, _, _, hrest2⟩ := hl
  obtain ⟨m, hm⟩ : ∃ m, m = ps.length := ⟨_, rfl⟩
  obtain ⟨n, hn⟩ : ∃ n, n = ls.length := ⟨_, rfl⟩
  obtain ⟨r, hr⟩ : ∃ r, r = okN ⟨ps, ls⟩ := ⟨_, rfl⟩
  rw [← hr]
  rw [← hm] at hpl ⊢
  rw [← hn] at hll ⊢
  rw [← hm] at HP
  rw [← hn] at HL
  have HM := Lib.hid hm
  have HN := Lib.hid hn
  have HR := Lib.hid hr
  clear hm hn hr
  have hb := Lib.hid ((Below.refl w.heap.size w).al (.cells #[.slice pa m pcap, .slice la n lcap] 31))
  have hH := Lib.hid (hp1 w (.cells #[.slice pa m pcap, .slice la n lcap] 31))
  by_cases q0 : m ≤ 12
  case neg =>
    have d0 : decide ((m : Int) > 12) = true := decide_eq_true (by omega)
    have d1 : decide (12 < (m : Int)) = true := decide_eq_true (by omega)
    go_enter Try.func45, Try.ntmps45
    go_wp2_with fail
    go_ret
    exact ⟨ret_bool (HR.out.trans (okN_head (head_no (by have := HM.out; omega)))), hb.out⟩
  have d0 : decide ((m : Int) > 12) = false := decide_eq_false (by omega)
  have d1 : decide (12 < (m : Int)) = false := decide_eq_false (by omega)
  by_cases q3 : n ≤ 30
  case neg =>
    have d2 : decide ((n : Int) > 30) = true := decide_eq_true (by omega)
    have d3 : decide (30 < (n : Int)) = true := decide_eq_true (by omega)
    go_enter Try.func45, Try.ntmps45
    go_wp2_with fail
    go_ret
    exact ⟨ret_bool (HR.out.trans (okN_head (head_no (by have := HN.out; omega)))), hb.out⟩
  have d2 : decide ((n : Int) > 30) = false := decide_eq_false (by omega)
  have d3 : decide (30 < (n : Int)) = false := decide_eq_false (by omega)
  go_enter Try.func45, Try.ntmps45
  go_wp2_with fail
  go_loopw [24] (fun i wr => ∃ k : Nat, k ≤ m ∧ i = .int .i64 k ∧ Hid ((ps.take k).all okP = true) ∧ Hid (Below (w.heap.size + 1) (w.alloc (.cells #[.slice pa m pcap, .slice la n lcap] 31)) wr)) (fun i _ => m - (intOf i).toNat)
  case atStart => exact ⟨0, Nat.zero_le _, rfl, by simp [Hid], Lib.hid (Below.refl _ _)⟩
  case round =>
    obtain ⟨k, hk, rfl, hA, hW⟩ := hrel
    have HB := Lib.hid (hb.out.trans (hW.out.mono (by omega)))
    by_cases hlt : k < m
    · rcases hrest with rfl | ⟨b, off, rfl, hbl, hcell⟩
      · exact absurd hlt (by have := HM.out; simp at this; omega)
      · obtain ⟨x, hx⟩ : ∃ x, ps[k]? = some x := ⟨_, List.getElem?_eq_getElem (by rw [← HM.out]; exact hlt)⟩
        obtain ⟨u, e0, e1, e2, e3⟩ := hcell k x hx
        have HS := Lib.hid (e3.below HB.out)
        obtain ⟨ua, uc, e4⟩ := e3.shape
        have c0 := (HB.out.cell (p := ⟨b, off + k * 3, none⟩) hbl).trans e0
        have c1 := (HB.out.cell (p := ⟨b, off + k * 3 + 1, none⟩) hbl).trans e1
        have c2 := (HB.out.cell (p := ⟨b, off + k * 3 + 2, none⟩) hbl).trans e2
        have hbl2 : b < wr.heap.size := Nat.lt_of_lt_of_le hbl HB.out.size
        have HX := Lib.hid hx
        clear hx hcell e0 e1 e2 e3
        obtain ⟨pi, po, pc⟩ := x
        simp only [] at c0 c1 c2 e4 HS
        obtain ⟨ul, hul⟩ : ∃ z, z = pc.length := ⟨_, rfl⟩
        rw [← hul] at e4
        clear hul
        subst e4
        cases ht : okP ⟨pi, po, pc⟩ with
        | true =>
          go_wp2_with (go_at_call 101; refine (sisp_any _ ⟨pi, po, pc⟩ _ ⟨_, rfl, HS.out.below ((Below.refl _ _).al _)⟩).mono ?_; rintro e w2 ⟨rfl, hb1⟩; have HB1 := Lib.hid hb1; clear hb1; rw [ht])
          go_roundw
          case rel => exact ⟨k + 1, by omega, by go_num, Lib.hid (allT_step HX.out hA.out ht), Lib.hid (hW.out.trans ((((Below.refl _ _).al _).trans (HB1.out.mono (by simp))).mono (by have := hW.out.size; simp at this; omega)))⟩
          case measure => simp [intOf]; omega
        | false =>
          go_wp2_with (go_at_call 101; refine (sisp_any _ ⟨pi, po, pc⟩ _ ⟨_, rfl, HS.out.below ((Below.refl _ _).al _)⟩).mono ?_; rintro e w2 ⟨rfl, hb1⟩; have HB1 := Lib.hid hb1; clear hb1; rw [ht])
          go_ret
          exact ⟨ret_bool (HR.out.trans (okN_head (head_prog (allT_no HX.out ht)))), HB.out.trans ((((Below.refl _ _).al _).trans (HB1.out.mono (by simp))).mono HB.out.size)⟩
    · have HALL := Lib.hid (allT_end (by rw [← HM.out]; exact hlt) hA.out)
      have HHEAD := Lib.hid (head_yes (ps := ps) (ls := ls) (by rw [← HM.out, ← HN.out]; exact ⟨q0, q3⟩) HALL.out)
      have hp12 := Lib.hid (show ps.length ≤ 12 by rw [← HM.out]; exact q0)
      have B := blk_in hH.out (hW.out.mono (by simp))
      obtain ⟨t0, t1⟩ := cells2 B
      have tl := lt_of B
      clear B
      go_wp2_with fail
      go_loopw [35] (fun i wr => ∃ j : Nat, j ≤ n ∧ i = .int .i64 j ∧ Hid ((ls.take j).all (fun l => endsL ps l && isS l.tok) = true) ∧ Hid (Below (w.heap.size + 1) (w.alloc (.cells #[.slice pa m pcap, .slice la n lcap] 31)) wr)) (fun i _ => n - (intOf i).toNat)
      case atStart => exact ⟨0, Nat.zero_le _, rfl, by simp [Hid], hW⟩
      case round =>
        obtain ⟨j, hj, rfl, hL, hV⟩ := hrel
        have HC := Lib.hid (hb.out.trans (hV.out.mono (by omega)))
        have B := blk_in hH.out (hV.out.mono (by simp))
        obtain ⟨t0, t1⟩ := cells2 B
        have tl := lt_of B
        clear B
        have HBX := Lib.hid (blk_in hH.out (hV.out.mono (by simp)))
        have NV := Lib.hid (show NetV wr (.agg #[.slice pa m pcap, .slice la n lcap]) ⟨ps, ls⟩ from ⟨_, _, rfl, HP.out.below HC.out, HL.out.below HC.out⟩)
        by_cases hjl : j < n
        · rcases hrest2 with rfl | ⟨b, off, rfl, hbl, hcell⟩
          · exact absurd hjl (by have := HN.out; simp at this; omega)
          · obtain ⟨x, hx⟩ : ∃ x, ls[j]? = some x := ⟨_, List.getElem?_eq_getElem (by rw [← HN.out]; exact hjl)⟩
            obtain ⟨u, e0, e1, e2, e3, e4, _, e5⟩ := hcell j x hx
            have HS := Lib.hid (e5.below HC.out)
            obtain ⟨ua, uc, e6⟩ := e5.shape
            have c0 := (HC.out.cell (p := ⟨b, off + j * 5, none⟩) hbl).trans e0
            have c1 := (HC.out.cell (p := ⟨b, off + j * 5 + 1, none⟩) hbl).trans e1
            have c2 := (HC.out.cell (p := ⟨b, off + j * 5 + 2, none⟩) hbl).trans e2
            have c3 := (HC.out.cell (p := ⟨b, off + j * 5 + 3, none⟩) hbl).trans e3
            have c4 := (HC.out.cell (p := ⟨b, off + j * 5 + 4, none⟩) hbl).trans e4
            have hbl2 : b < wr.heap.size := Nat.lt_of_lt_of_le hbl HC.out.size
            have HX := Lib.hid hx
            clear hx hcell e0 e1 e2 e3 e4 e5
            obtain ⟨xf, xo, xt, xi, xk⟩ := x
            simp only [] at c0 c1 c2 c3 c4 e6 HS
            obtain ⟨ul, hul⟩ : ∃ z, z = xk.length := ⟨_, rfl⟩
            rw [← hul] at e6
            clear hul
            subst e6
            have hH5 := Lib.hid (hp1 wr (.cells #[.int .i64 xf, .int .i64 xo, .int .i64 xt, .int .i64 xi, .slice ua ul uc] 68))
            have HB5 := Lib.hid ((Below.refl wr.heap.size wr).al (.cells #[.int .i64 xf, .int .i64 xo, .int .i64 xt, .int .i64 xi, .slice ua ul uc] 68))
            have EC := Lib.hid (sends_any _ ⟨ps, ls⟩ xf xo xt xi xk (.slice ua ul uc) _ (NV.out.below HB5.out) HALL.out hp12.out)
            cases he : endsL ps ⟨xf, xo, xt, xi, xk⟩ with
            | false =>
              simp only [he] at EC
              go_wp2_with (go_at_call 102; with_reducible refine EC.out.mono ?_; rintro e w6 ⟨rfl, hb6⟩; have HB6 := Lib.hid (HB5.out.trans (hb6.mono HB5.out.size)); clear hb6)
              go_ret
              exact ⟨ret_bool (HR.out.trans (okN2_link (allT_no HX.out (by simp [he])))), HC.out.trans (HB6.out.mono HC.out.size)⟩
            | true =>
              simp only [he] at EC
              have SC := Lib.hid (fun W hw => sstream_any (.slice ua ul uc) xk W (HS.out.below hw))
              cases hs : isS xk with
              | false =>
                rw [hs] at SC
                go_wp2_with (first | (go_at_call 102; with_reducible refine EC.out.mono ?_; rintro e w6 ⟨rfl, hb6⟩; have HB6 := Lib.hid (HB5.out.trans (hb6.mono HB5.out.size)); have B6 := blk_in hH5.out hb6; obtain ⟨f0, f1, f2, f3, f4⟩ := cells5 B6; have fl := lt_of B6; clear hb6 B6) | (go_at_call 103; refine (SC.out _ HB6.out).mono ?_; rintro e w7 ⟨rfl, rfl⟩))
                go_ret
                exact ⟨ret_bool (HR.out.trans (okN2_link (allT_no HX.out (by simp [he, hs])))), HC.out.trans (HB6.out.mono HC.out.size)⟩
              | true =>
                rw [hs] at SC
                go_wp2_with (first | (go_at_call 102; with_reducible refine EC.out.mono ?_; rintro e w6 ⟨rfl, hb6⟩; have HB6 := Lib.hid (HB5.out.trans (hb6.mono HB5.out.size)); have B6 := blk_in hH5.out hb6; obtain ⟨f0, f1, f2, f3, f4⟩ := cells5 B6; have fl := lt_of B6; clear hb6 B6) | (go_at_call 103; refine (SC.out _ HB6.out).mono ?_; rintro e w7 ⟨rfl, rfl⟩))
                go_roundw
                case rel => exact ⟨j + 1, by omega, by go_num, Lib.hid (allT_step HX.out hL.out (by simp [he, hs])), Lib.hid (hV.out.trans (HB6.out.mono (by have := hV.out.size; simp at this; omega)))⟩
                case measure => simp [intOf]; omega
        · have HLALL := Lib.hid (allT_end (by rw [← HN.out]; exact hjl) hL.out)
          go_wp2_with fail
          go_loopw [53] (fun i wr => ∃ k : Nat, k ≤ m ∧ i = .int .i64 k ∧ Hid ((portsFrom Prg.ins 0 (ps.take k)).all (q1 ls) = true) ∧ Hid ((portsFrom Prg.outs 0 (ps.take k)).all (q2 ls) = true) ∧ Hid (Below (w.heap.size + 1) (w.alloc (.cells #[.slice pa m pcap, .slice la n lcap] 31)) wr)) (fun i _ => m - (intOf i).toNat)
          case atStart => exact ⟨0, Nat.zero_le _, rfl, by simp [Hid, portsFrom], by simp [Hid, portsFrom], hV⟩
          case round =>
            obtain ⟨k, hk, rfl, hQ1, hQ2, hU⟩ := hrel
            have HB := Lib.hid (hb.out.trans (hU.out.mono (by omega)))
            by_cases hlt : k < m
            · rcases hrest with rfl | ⟨b, off, rfl, hbl, hcell⟩
              · exact absurd hlt (by have := HM.out; simp at this; omega)
              · obtain ⟨x, hx⟩ : ∃ x, ps[k]? = some x := ⟨_, List.getElem?_eq_getElem (by rw [← HM.out]; exact hlt)⟩
                have hok := all_get HALL.out hx
                have hqi := okP_ins hok
                have hqo := okP_outs hok
                obtain ⟨u, e0, e1, e2, e3⟩ := hcell k x hx
                obtain ⟨ua, uc, e4⟩ := e3.shape
                have c0 := (HB.out.cell (p := ⟨b, off + k * 3, none⟩) hbl).trans e0
                have c1 := (HB.out.cell (p := ⟨b, off + k * 3 + 1, none⟩) hbl).trans e1
                have c2 := (HB.out.cell (p := ⟨b, off + k * 3 + 2, none⟩) hbl).trans e2
                have hbl2 : b < wr.heap.size := Nat.lt_of_lt_of_le hbl HB.out.size
                have HX := Lib.hid hx
                clear hx hcell e0 e1 e2 e3
                obtain ⟨pi, po, pc⟩ := x
                simp only [] at c0 c1 c2 e4
                obtain ⟨ul, hul⟩ : ∃ z, z = pc.length := ⟨_, rfl⟩
                rw [← hul] at e4
                clear hul
                subst e4
                simp only [] at hqi hqo
                obtain ⟨ki, rfl⟩ : ∃ q : Nat, pi = q := ⟨pi.toNat, by omega⟩
                obtain ⟨ko, rfl⟩ : ∃ q : Nat, po = q := ⟨po.toNat, by omega⟩
                have HPB := Lib.hid (hp1 wr (.cells #[.int .i64 ki, .int .i64 ko, .slice ua ul uc] 79))
                have HNB := Lib.hid (blk_in (blk_in hH.out (hU.out.mono (by simp))) ((Below.refl wr.heap.size wr).al (.cells #[.int .i64 ki, .int .i64 ko, .slice ua ul uc] 79)))
                have HW1 := Lib.hid (HB.out.trans (((Below.refl wr.heap.size wr).al (.cells #[.int .i64 ki, .int .i64 ko, .slice ua ul uc] 79)).mono HB.out.size))
                have HU1 := Lib.hid (hU.out.alloc (by have := hU.out.size; simp at this; omega) (.cells #[.int .i64 ki, .int .i64 ko, .slice ua ul uc] 79))
                obtain ⟨g, hg⟩ : ∃ g, g = wr.heap.size := ⟨_, rfl⟩
                go_wp2_with fail
                generalize hw1 : wr.alloc (.cells #[.int .i64 ki, .int .i64 ko, .slice ua ul uc] 79) = w1 at HPB HNB HW1 HU1 ⊢
                rw [← hg] at HPB ⊢
                clear hw1 hg c0 c1 c2 hbl2
                go_loopw [9] (fun i wr => ∃ j : Nat, j ≤ ki ∧ i = .int .i64 j ∧ Hid (((List.range j).map fun (j : Nat) => ((k : Int), (j : Int))).all (q1 ls) = true) ∧ Hid (Below w1.heap.size w1 wr)) (fun i _ => ki - (intOf i).toNat)
                case atStart => exact ⟨0, Nat.zero_le _, rfl, by simp [Hid], Lib.hid (Below.refl _ _)⟩
                case round =>
                  obtain ⟨j1, hj1, rfl, hR1, hI⟩ := hrel
                  have HWI := Lib.hid (HW1.out.trans (hI.out.mono HW1.out.size))
                  have PB := blk_in HPB.out hI.out
                  obtain ⟨p0, p1, p2⟩ := cells3 PB
                  have pl := lt_of PB
                  have NB := blk_in HNB.out hI.out
                  obtain ⟨s0, s1⟩ := cells2 NB
                  have sl := lt_of NB
                  clear PB NB
                  by_cases hjk : j1 < ki
                  · have HJK := Lib.hid hjk
                    have TC := Lib.hid (sto_any _ ⟨ps, ls⟩ k j1 wr ⟨_, _, rfl, HP.out.below HWI.out, HL.out.below HWI.out⟩)
                    obtain ⟨z, hz⟩ : ∃ z, z = atE Lnk.tgt ls ((k : Int), (j1 : Int)) := ⟨_, rfl⟩
                    simp only [] at TC
                    rw [← hz] at TC
                    have HZ := Lib.hid hz
                    clear hz
                    by_cases hneg : z < 0
                    · have dz : decide (z < 0) = true := decide_eq_true hneg; have HNEG := Lib.hid hneg
                      go_wp2_with (go_at_call 104; with_reducible refine TC.out.mono ?_; rintro e w6 ⟨rfl, hb6⟩; have HB6 := Lib.hid hb6; clear hb6)
                      go_ret
                      exact ⟨ret_bool (HR.out.trans (okN2_in (port_mem HX.out (by have := HJK.out; show (j1 : Int) < (ki : Int); omega)) (by unfold q1; rw [← HZ.out]; exact decide_eq_false (by have := HNEG.out; omega)))), HWI.out.trans (HB6.out.mono HWI.out.size)⟩
                    · have dz : decide (z < 0) = false := decide_eq_false hneg; have HNEG := Lib.hid hneg
                      go_wp2_with (go_at_call 104; with_reducible refine TC.out.mono ?_; rintro e w6 ⟨rfl, hb6⟩; have HB6 := Lib.hid hb6; clear hb6)
                      go_roundw
                      case rel => exact ⟨j1 + 1, by omega, by go_num, Lib.hid (range_all hR1.out (by unfold q1; rw [← HZ.out]; exact decide_eq_true (by have := HNEG.out; omega))), Lib.hid (hI.out.trans (HB6.out.mono hI.out.size))⟩
                      case measure => simp [intOf]; omega
                  · have hR2 := Lib.hid (show ((List.range ki).map fun (j : Nat) => ((k : Int), (j : Int))).all (q1 ls) = true by have := hR1.out; rwa [show j1 = ki by omega] at this)
                    go_wp2_with fail
                    go_loopw [10] (fun i wr => ∃ j : Nat, j ≤ ko ∧ i = .int .i64 j ∧ Hid (((List.range j).map fun (j : Nat) => ((k : Int), (j : Int))).all (q2 ls) = true) ∧ Hid (Below w1.heap.size w1 wr)) (fun i _ => ko - (intOf i).toNat)
                    case atStart => exact ⟨0, Nat.zero_le _, rfl, by simp [Hid], hI⟩
                    case round =>
                      obtain ⟨j2, hj2, rfl, hS1, hI2⟩ := hrel
                      have HWI2 := Lib.hid (HW1.out.trans (hI2.out.mono HW1.out.size))
                      have PB := blk_in HPB.out hI2.out
                      obtain ⟨p0, p1, p2⟩ := cells3 PB
                      have pl := lt_of PB
                      have NB := blk_in HNB.out hI2.out
                      obtain ⟨s0, s1⟩ := cells2 NB
                      have sl := lt_of NB
                      clear PB NB
                      by_cases hjk2 : j2 < ko
                      · have HJK := Lib.hid hjk2
                        have TC := Lib.hid (sfrom_any _ ⟨ps, ls⟩ k j2 wr ⟨_, _, rfl, HP.out.below HWI2.out, HL.out.below HWI2.out⟩)
                        obtain ⟨z, hz⟩ : ∃ z, z = atE Lnk.src ls ((k : Int), (j2 : Int)) := ⟨_, rfl⟩
                        simp only [] at TC
                        rw [← hz] at TC
                        have HZ := Lib.hid hz
                        clear hz
                        by_cases hneg : z < 0
                        · have dz : decide (z < 0) = true := decide_eq_true hneg; have HNEG := Lib.hid hneg
                          go_wp2_with (go_at_call 105; with_reducible refine TC.out.mono ?_; rintro e w6 ⟨rfl, hb6⟩; have HB6 := Lib.hid hb6; clear hb6)
                          go_ret
                          exact ⟨ret_bool (HR.out.trans (okN2_out (port_mem HX.out (by have := HJK.out; show (j2 : Int) < (ko : Int); omega)) (by unfold q2; rw [← HZ.out]; exact decide_eq_false (by have := HNEG.out; omega)))), HWI2.out.trans (HB6.out.mono HWI2.out.size)⟩
                        · have dz : decide (z < 0) = false := decide_eq_false hneg; have HNEG := Lib.hid hneg
                          go_wp2_with (go_at_call 105; with_reducible refine TC.out.mono ?_; rintro e w6 ⟨rfl, hb6⟩; have HB6 := Lib.hid hb6; clear hb6)
                          go_roundw
                          case rel => exact ⟨j2 + 1, by omega, by go_num, Lib.hid (range_all hS1.out (by unfold q2; rw [← HZ.out]; exact decide_eq_true (by have := HNEG.out; omega))), Lib.hid (hI2.out.trans (HB6.out.mono hI2.out.size))⟩
                          case measure => simp [intOf]; omega
                      · have hS2 := Lib.hid (show ((List.range ko).map fun (j : Nat) => ((k : Int), (j : Int))).all (q2 ls) = true by have := hS1.out; rwa [show j2 = ko by omega] at this)
                        go_wp2_with fail
                        go_roundw
                        case rel => exact ⟨k + 1, by omega, by go_num, Lib.hid (ports_all HX.out hQ1.out (by simpa using hR2.out)), Lib.hid (ports_all HX.out hQ2.out (by simpa using hS2.out)), Lib.hid (HU1.out.trans (hI2.out.mono (by have := HU1.out.size; simp at this; omega)))⟩
                        case measure => simp [intOf]; omega
            · have hE := Lib.hid (HR.out.trans (okN2_yes HHEAD.out HLALL.out (by have := hQ1.out; rwa [List.take_of_length_le (by rw [← HM.out]; omega)] at this) (by have := hQ2.out; rwa [List.take_of_length_le (by rw [← HM.out]; omega)] at this)))
              go_wp2_with fail
              go_ret
              exact ⟨ret_bool hE.out, HB.out⟩
end Go.Proofs.Ytkeoefbkeommhaa
