/-
  What the model's l3Ends answers. No statement of the seat is proved here.
-/
import Derived.Test.YtjphamgkigekkaaPorts
namespace Go.Proofs.Ytjphamgkigekkaa
open Go.RowKit

theorem endsL_no1 {ps : List Prg} {l : Lnk} (h : l.frm = -1 ∧ l.to = -1) : endsL ps l = false := by unfold endsL; simp [h.1, h.2]
theorem endsL_no2 {ps : List Prg} {l : Lnk} (h : ¬ (-1 ≤ l.frm ∧ l.frm ≤ (ps.length : Int) - 1)) : endsL ps l = false := by unfold endsL; rw [decide_eq_false h]; simp
theorem endsL_no3 {ps : List Prg} {l : Lnk} (h : ¬ (-1 ≤ l.to ∧ l.to ≤ (ps.length : Int) - 1)) : endsL ps l = false := by unfold endsL; rw [decide_eq_false h]; simp
theorem endsL_go {ps : List Prg} {l : Lnk} {o i : Int} (h0 : ¬ (l.frm = -1 ∧ l.to = -1)) (h1 : -1 ≤ l.frm ∧ l.frm ≤ (ps.length : Int) - 1) (h2 : -1 ≤ l.to ∧ l.to ≤ (ps.length : Int) - 1)
    (ho : (if 0 ≤ l.frm then (match ps[l.frm.toNat]? with | some p => p.outs | none => 1) else 1) = o) (hi : (if 0 ≤ l.to then (match ps[l.to.toNat]? with | some p => p.ins | none => 1) else 1) = i) :
    endsL ps l = (inB 0 (o - 1) l.out && inB 0 (i - 1) l.inn) := by
  unfold inB
  rw [show endsL ps l = (!(decide (l.frm = -1) && decide (l.to = -1)) && decide (-1 ≤ l.frm ∧ l.frm ≤ (ps.length : Int) - 1) && decide (-1 ≤ l.to ∧ l.to ≤ (ps.length : Int) - 1) &&
    decide (0 ≤ l.out ∧ l.out < (if 0 ≤ l.frm then (match ps[l.frm.toNat]? with | some p => p.outs | none => 1) else 1)) &&
    decide (0 ≤ l.inn ∧ l.inn < (if 0 ≤ l.to then (match ps[l.to.toNat]? with | some p => p.ins | none => 1) else 1))) from rfl]
  rw [decide_eq_true h1, decide_eq_true h2, ho, hi]
  have e1 : (decide (l.frm = -1) && decide (l.to = -1)) = false := by
    rw [Bool.and_eq_false_iff, decide_eq_false_iff_not, decide_eq_false_iff_not]
    by_cases q : l.frm = -1
    · exact .inr (fun z => h0 ⟨q, z⟩)
    · exact .inl q
  rw [e1]
  have e2 : decide (0 ≤ l.out ∧ l.out < o) = decide (0 ≤ l.out ∧ l.out ≤ o - 1) := by congr 1; rw [eq_iff_iff]; omega
  have e3 : decide (0 ≤ l.inn ∧ l.inn < i) = decide (0 ≤ l.inn ∧ l.inn ≤ i - 1) := by congr 1; rw [eq_iff_iff]; omega
  rw [e2, e3]
  rfl
theorem at_prog {ps : List Prg} {k : Nat} {x : Prg} {f : Prg → Int} (hx : ps[k]? = some x) : (if (0 : Int) ≤ (k : Int) then (match ps[(k : Int).toNat]? with | some p => f p | none => 1) else 1) = f x := by
  rw [if_pos (by omega), Int.toNat_natCast, hx]
theorem at_none {ps : List Prg} {z : Int} {f : Prg → Int} (hz : ¬ 0 ≤ z) : (if (0 : Int) ≤ z then (match ps[z.toNat]? with | some p => f p | none => 1) else 1) = 1 := if_neg hz

theorem inb_is {f : Nat} {vs : Array Value} {w : World} {b c : Bool} (h : Calls Try.prog f vs w fun e w' => e = .returned (.bool b) ∧ w = w') (hb : b = c) : Calls Try.prog f vs w fun e w' => e = .returned (.bool c) ∧ w = w' := by
  subst hb; exact h

set_option maxRecDepth 100000 in
set_option maxHeartbeats 8000000 in
theorem sends_any (v : Value) (n : Net) (xf xo xt xi : Int) (xk : List Int) (u : Value) (w : World) (h : NetV w v n) (hall : n.progs.all okP = true) (hlen : n.progs.length ≤ 12) :
    Calls Try.prog 121 #[v, .agg #[.int .i64 xf, .int .i64 xo, .int .i64 xt, .int .i64 xi, u]] w fun e w' => e = .returned (.bool (endsL n.progs ⟨xf, xo, xt, xi, xk⟩)) ∧ Below w.heap.size w w' := by
  obtain ⟨c, d, rfl, hp, hl⟩ := h
  obtain ⟨ps, ls⟩ := n
  simp only [] at hp hl hall hlen ⊢
  clear hl
  obtain ⟨pa, pcap, rfl, _, _, _, hrest⟩ := hp
  obtain ⟨m, hm⟩ : ∃ m, m = ps.length := ⟨_, rfl⟩
  obtain ⟨r, hr⟩ : ∃ r, r = endsL ps ⟨xf, xo, xt, xi, xk⟩ := ⟨_, rfl⟩
  rw [← hr]
  rw [← hm] at hlen ⊢
  have HM := Lib.hid hm
  have HR := Lib.hid hr
  have HALL := Lib.hid hall
  clear hm hr hall
  have wm : wrap64 ((m : Int) - 1) = (m : Int) - 1 := IntWalk.wrap64_in _ (by omega)
  have hb := Lib.hid (((Below.refl w.heap.size w).al (.cells #[.slice pa m pcap, d] 34)).al (.cells #[.int .i64 xf, .int .i64 xo, .int .i64 xt, .int .i64 xi, u] 82))
  by_cases h0 : xf = -1 ∧ xt = -1
  · obtain ⟨rfl, rfl⟩ := h0
    go_enter Try.func121, Try.ntmps121
    go_wp2_with fail
    go_ret
    exact ⟨ret_bool (HR.out.trans (endsL_no1 ⟨rfl, rfl⟩)), hb.out⟩
  cases q1 : inB (-1) ((m : Int) - 1) xf with
  | false =>
    have HE := Lib.hid (HR.out.trans (endsL_no2 (l := ⟨xf, xo, xt, xi, xk⟩) (by rw [← HM.out]; exact inB_f q1)))
    have C1 := Lib.hid (fun W => inb_is (sin_any xf (-1) ((m : Int) - 1) W) q1)
    by_cases g1 : xf = -1
    · subst g1
      have d2 : (xt == -1) = false := by simp; omega
      clear h0
      go_enter Try.func121, Try.ntmps121
      go_wp2_with (go_at_call 87; with_reducible refine (C1.out _).mono ?_; rintro e w' ⟨rfl, rfl⟩)
      go_ret
      exact ⟨ret_bool HE.out, hb.out⟩
    · have d1 : (xf == -1) = false := by simpa using g1
      clear h0
      go_enter Try.func121, Try.ntmps121
      go_wp2_with (go_at_call 87; with_reducible refine (C1.out _).mono ?_; rintro e w' ⟨rfl, rfl⟩)
      go_ret
      exact ⟨ret_bool HE.out, hb.out⟩
  | true =>
    have C1 := Lib.hid (fun W => inb_is (sin_any xf (-1) ((m : Int) - 1) W) q1)
    cases q2 : inB (-1) ((m : Int) - 1) xt with
    | false =>
      have HE := Lib.hid (HR.out.trans (endsL_no3 (l := ⟨xf, xo, xt, xi, xk⟩) (by rw [← HM.out]; exact inB_f q2)))
      have C2 := Lib.hid (fun W => inb_is (sin_any xt (-1) ((m : Int) - 1) W) q2)
      by_cases g1 : xf = -1
      · subst g1
        have d2 : (xt == -1) = false := by simp; omega
        clear h0
        go_enter Try.func121, Try.ntmps121
        go_wp2_with (first | (go_at_call 87; with_reducible refine (C2.out _).mono ?_; rintro e w' ⟨rfl, rfl⟩) | (go_at_call 87; with_reducible refine (C1.out _).mono ?_; rintro e w' ⟨rfl, rfl⟩))
        go_ret
        exact ⟨ret_bool HE.out, hb.out⟩
      · have d1 : (xf == -1) = false := by simpa using g1
        clear h0
        go_enter Try.func121, Try.ntmps121
        go_wp2_with (first | (go_at_call 87; with_reducible refine (C2.out _).mono ?_; rintro e w' ⟨rfl, rfl⟩) | (go_at_call 87; with_reducible refine (C1.out _).mono ?_; rintro e w' ⟨rfl, rfl⟩))
        go_ret
        exact ⟨ret_bool HE.out, hb.out⟩
    | true =>
      have C2 := Lib.hid (fun W => inb_is (sin_any xt (-1) ((m : Int) - 1) W) q2)
      have b1 := inB_t q1
      have b2 := inB_t q2
      have HB1 := Lib.hid (show -1 ≤ xf ∧ xf ≤ (ps.length : Int) - 1 by rw [← HM.out]; exact b1)
      have HB2 := Lib.hid (show -1 ≤ xt ∧ xt ≤ (ps.length : Int) - 1 by rw [← HM.out]; exact b2)
      have HH := Lib.hid h0
      clear q1 q2
      by_cases g1 : 0 ≤ xf
      · by_cases g2 : 0 ≤ xt
        · skip
          obtain ⟨kf, rfl⟩ : ∃ k : Nat, xf = k := ⟨xf.toNat, by omega⟩
          obtain ⟨kt, rfl⟩ : ∃ k : Nat, xt = k := ⟨xt.toNat, by omega⟩
          rcases hrest with hnil | ⟨b, off, rfl, hbl, hcell⟩
          · exfalso; have := HM.out; rw [hnil] at this; simp at this; omega
          obtain ⟨x, hx⟩ : ∃ x, ps[kf]? = some x := ⟨_, List.getElem?_eq_getElem (by rw [← HM.out]; omega)⟩
          obtain ⟨_, _, f1, _, _⟩ := hcell kf x hx
          have ho := Lib.hid (at_prog (f := Prg.outs) hx)
          have hq := okP_outs (all_get HALL.out hx)
          obtain ⟨ov, hov⟩ : ∃ z, z = x.outs := ⟨_, rfl⟩
          rw [← hov] at ho hq f1
          clear hx hov
          have lf : kf < m := by omega
          have lf2 : (kf : Int) < (m : Int) := by omega
          have wo : wrap64 (ov - 1) = ov - 1 := IntWalk.wrap64_in _ (by omega)
          have df1 : ((kf : Int) == -1) = false := beq_eq_false_iff_ne.2 (by omega)
          obtain ⟨y, hy⟩ : ∃ x, ps[kt]? = some x := ⟨_, List.getElem?_eq_getElem (by rw [← HM.out]; omega)⟩
          obtain ⟨_, t0, _, _, _⟩ := hcell kt y hy
          have hi := Lib.hid (at_prog (f := Prg.ins) hy)
          have hq2 := okP_ins (all_get HALL.out hy)
          obtain ⟨iv, hiv⟩ : ∃ z, z = y.ins := ⟨_, rfl⟩
          rw [← hiv] at hi hq2 t0
          clear hy hiv
          have lt : kt < m := by omega
          have lt2 : (kt : Int) < (m : Int) := by omega
          have wi : wrap64 (iv - 1) = iv - 1 := IntWalk.wrap64_in _ (by omega)
          have dt1 : ((kt : Int) == -1) = false := beq_eq_false_iff_ne.2 (by omega)
          have hbl1 : b < w.heap.size + 1 := by omega
          have hbl2 : b < w.heap.size + 1 + 1 := by omega
          clear hcell
          have HE := Lib.hid (HR.out.trans (endsL_go (l := ⟨kf, xo, kt, xi, xk⟩) HH.out HB1.out HB2.out ho.out hi.out))
          clear h0 b1 b2
          cases q3 : inB 0 (ov - 1) xo with
          | false =>
            have C3 := Lib.hid (fun W => inb_is (sin_any xo 0 (ov - 1) W) q3)
            go_enter Try.func121, Try.ntmps121
            go_wp2_with (first | (go_at_call 87; with_reducible refine (C3.out _).mono ?_; rintro e w' ⟨rfl, rfl⟩) | (go_at_call 87; with_reducible refine (C2.out _).mono ?_; rintro e w' ⟨rfl, rfl⟩) | (go_at_call 87; with_reducible refine (C1.out _).mono ?_; rintro e w' ⟨rfl, rfl⟩))
            go_ret
            exact ⟨ret_bool (HE.out.trans (by rw [q3]; rfl)), hb.out⟩
          | true =>
            have C3 := Lib.hid (fun W => inb_is (sin_any xo 0 (ov - 1) W) q3)
            have C4 := Lib.hid (fun W => sin_any xi 0 (iv - 1) W)
            go_enter Try.func121, Try.ntmps121
            go_wp2_with (first | (go_at_call 87; with_reducible refine (C4.out _).mono ?_; rintro e w' ⟨rfl, rfl⟩) | (go_at_call 87; with_reducible refine (C3.out _).mono ?_; rintro e w' ⟨rfl, rfl⟩) | (go_at_call 87; with_reducible refine (C2.out _).mono ?_; rintro e w' ⟨rfl, rfl⟩) | (go_at_call 87; with_reducible refine (C1.out _).mono ?_; rintro e w' ⟨rfl, rfl⟩))
            go_ret
            exact ⟨ret_bool (HE.out.trans (by rw [q3]; rfl)), hb.out⟩
        · skip
          obtain ⟨kf, rfl⟩ : ∃ k : Nat, xf = k := ⟨xf.toNat, by omega⟩
          obtain rfl : xt = -1 := by omega
          have hi := Lib.hid (at_none (ps := ps) (f := Prg.ins) (show ¬ (0 : Int) ≤ -1 by omega))
          rcases hrest with hnil | ⟨b, off, rfl, hbl, hcell⟩
          · exfalso; have := HM.out; rw [hnil] at this; simp at this; omega
          obtain ⟨x, hx⟩ : ∃ x, ps[kf]? = some x := ⟨_, List.getElem?_eq_getElem (by rw [← HM.out]; omega)⟩
          obtain ⟨_, _, f1, _, _⟩ := hcell kf x hx
          have ho := Lib.hid (at_prog (f := Prg.outs) hx)
          have hq := okP_outs (all_get HALL.out hx)
          obtain ⟨ov, hov⟩ : ∃ z, z = x.outs := ⟨_, rfl⟩
          rw [← hov] at ho hq f1
          clear hx hov
          have lf : kf < m := by omega
          have lf2 : (kf : Int) < (m : Int) := by omega
          have wo : wrap64 (ov - 1) = ov - 1 := IntWalk.wrap64_in _ (by omega)
          have df1 : ((kf : Int) == -1) = false := beq_eq_false_iff_ne.2 (by omega)
          have hbl1 : b < w.heap.size + 1 := by omega
          have hbl2 : b < w.heap.size + 1 + 1 := by omega
          clear hcell
          have HE := Lib.hid (HR.out.trans (endsL_go (l := ⟨kf, xo, -1, xi, xk⟩) HH.out HB1.out HB2.out ho.out hi.out))
          clear h0 b1 b2
          cases q3 : inB 0 (ov - 1) xo with
          | false =>
            have C3 := Lib.hid (fun W => inb_is (sin_any xo 0 (ov - 1) W) q3)
            go_enter Try.func121, Try.ntmps121
            go_wp2_with (first | (go_at_call 87; with_reducible refine (C3.out _).mono ?_; rintro e w' ⟨rfl, rfl⟩) | (go_at_call 87; with_reducible refine (C2.out _).mono ?_; rintro e w' ⟨rfl, rfl⟩) | (go_at_call 87; with_reducible refine (C1.out _).mono ?_; rintro e w' ⟨rfl, rfl⟩))
            go_ret
            exact ⟨ret_bool (HE.out.trans (by rw [show (1 : Int) - 1 = 0 by omega]; rw [q3]; rfl)), hb.out⟩
          | true =>
            have C3 := Lib.hid (fun W => inb_is (sin_any xo 0 (ov - 1) W) q3)
            have C4 := Lib.hid (fun W => sin_any xi 0 (0) W)
            go_enter Try.func121, Try.ntmps121
            go_wp2_with (first | (go_at_call 87; with_reducible refine (C4.out _).mono ?_; rintro e w' ⟨rfl, rfl⟩) | (go_at_call 87; with_reducible refine (C3.out _).mono ?_; rintro e w' ⟨rfl, rfl⟩) | (go_at_call 87; with_reducible refine (C2.out _).mono ?_; rintro e w' ⟨rfl, rfl⟩) | (go_at_call 87; with_reducible refine (C1.out _).mono ?_; rintro e w' ⟨rfl, rfl⟩))
            go_ret
            exact ⟨ret_bool (HE.out.trans (by rw [show (1 : Int) - 1 = 0 by omega]; rw [q3]; rfl)), hb.out⟩
      · by_cases g2 : 0 ≤ xt
        · skip
          obtain rfl : xf = -1 := by omega
          have ho := Lib.hid (at_none (ps := ps) (f := Prg.outs) (show ¬ (0 : Int) ≤ -1 by omega))
          obtain ⟨kt, rfl⟩ : ∃ k : Nat, xt = k := ⟨xt.toNat, by omega⟩
          rcases hrest with hnil | ⟨b, off, rfl, hbl, hcell⟩
          · exfalso; have := HM.out; rw [hnil] at this; simp at this; omega
          obtain ⟨y, hy⟩ : ∃ x, ps[kt]? = some x := ⟨_, List.getElem?_eq_getElem (by rw [← HM.out]; omega)⟩
          obtain ⟨_, t0, _, _, _⟩ := hcell kt y hy
          have hi := Lib.hid (at_prog (f := Prg.ins) hy)
          have hq2 := okP_ins (all_get HALL.out hy)
          obtain ⟨iv, hiv⟩ : ∃ z, z = y.ins := ⟨_, rfl⟩
          rw [← hiv] at hi hq2 t0
          clear hy hiv
          have lt : kt < m := by omega
          have lt2 : (kt : Int) < (m : Int) := by omega
          have wi : wrap64 (iv - 1) = iv - 1 := IntWalk.wrap64_in _ (by omega)
          have dt1 : ((kt : Int) == -1) = false := beq_eq_false_iff_ne.2 (by omega)
          have hbl1 : b < w.heap.size + 1 := by omega
          have hbl2 : b < w.heap.size + 1 + 1 := by omega
          clear hcell
          have HE := Lib.hid (HR.out.trans (endsL_go (l := ⟨-1, xo, kt, xi, xk⟩) HH.out HB1.out HB2.out ho.out hi.out))
          clear h0 b1 b2
          cases q3 : inB 0 (0) xo with
          | false =>
            have C3 := Lib.hid (fun W => inb_is (sin_any xo 0 (0) W) q3)
            go_enter Try.func121, Try.ntmps121
            go_wp2_with (first | (go_at_call 87; with_reducible refine (C3.out _).mono ?_; rintro e w' ⟨rfl, rfl⟩) | (go_at_call 87; with_reducible refine (C2.out _).mono ?_; rintro e w' ⟨rfl, rfl⟩) | (go_at_call 87; with_reducible refine (C1.out _).mono ?_; rintro e w' ⟨rfl, rfl⟩))
            go_ret
            exact ⟨ret_bool (HE.out.trans (by rw [show (1 : Int) - 1 = 0 by omega]; rw [q3]; rfl)), hb.out⟩
          | true =>
            have C3 := Lib.hid (fun W => inb_is (sin_any xo 0 (0) W) q3)
            have C4 := Lib.hid (fun W => sin_any xi 0 (iv - 1) W)
            go_enter Try.func121, Try.ntmps121
            go_wp2_with (first | (go_at_call 87; with_reducible refine (C4.out _).mono ?_; rintro e w' ⟨rfl, rfl⟩) | (go_at_call 87; with_reducible refine (C3.out _).mono ?_; rintro e w' ⟨rfl, rfl⟩) | (go_at_call 87; with_reducible refine (C2.out _).mono ?_; rintro e w' ⟨rfl, rfl⟩) | (go_at_call 87; with_reducible refine (C1.out _).mono ?_; rintro e w' ⟨rfl, rfl⟩))
            go_ret
            exact ⟨ret_bool (HE.out.trans (by rw [show (1 : Int) - 1 = 0 by omega]; rw [q3]; rfl)), hb.out⟩
        · exact absurd ⟨by omega, by omega⟩ h0
end Go.Proofs.Ytjphamgkigekkaa
