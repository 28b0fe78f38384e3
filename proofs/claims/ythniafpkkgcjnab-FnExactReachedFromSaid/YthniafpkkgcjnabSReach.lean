/-
  What the model's l3Reached, ReachedFrom, HasCycle answer. No statement of the seat is proved here.
-/
import Derived.Test.YthniafpkkgcjnabSLink
import Derived.Test.YthniafpkkgcjnabIHas
namespace Go.Proofs.Ythniafpkkgcjnab
open Go.RowKit

theorem infoB : (Try.prog.info? 4).map (fun i => (i.zero, i.size, i.bytes)) = some (some (.bool false), 1, 1) := by kernel_rfl
theorem infoB_parts : ∃ i0, Try.prog.info? 4 = some i0 ∧ i0.zero = some (.bool false) ∧ i0.size = 1 ∧ i0.bytes = 1 := by
  have h := infoB
  cases e : Try.prog.info? 4 with
  | none => rw [e] at h; cases h
  | some i =>
    rw [e] at h
    simp only [Option.map_some, Option.some.injEq, Prod.mk.injEq] at h
    exact ⟨i, rfl, h.1, h.2.1, h.2.2⟩
/-- The row g of the call's own holds these bools. -/
def RowB (g m : Nat) (w : World) (ms : List Bool) : Prop := ms.length = m ∧ w.ownsRow g 4 1 (.slice (some ⟨g, 0, none⟩) m m) m (ms.map Value.bool)
theorem RowB.below {g m : Nat} {w w' : World} {ms : List Bool} (h : RowB g m w ms) (hb : Below w.heap.size w w') : RowB g m w' ms := ⟨h.1, row_below h.2 hb⟩
theorem RowB.lt {g m : Nat} {w : World} {ms : List Bool} (h : RowB g m w ms) : g < w.heap.size := (World.ownsRow.lt h.2 g rfl).2
theorem RowB.cell {g m j : Nat} {w : World} {ms : List Bool} (h : RowB g m w ms) (hj : j < m) : w.cell? ⟨g, j, none⟩ = some (.bool (ms.getD j false)) ∧ w.frozen? ⟨g, j, none⟩ = false := by
  refine ⟨?_, h.2.frozenAt j⟩
  have hl := h.1
  rw [h.2.cellAt j (by omega), List.getElem?_map, List.getElem?_eq_getElem (by omega), List.getD_eq_getElem?_getD, List.getElem?_eq_getElem (by omega)]
  rfl
theorem RowB.put {g m j : Nat} {w : World} {ms : List Bool} (h : RowB g m w ms) : RowB g m (w.setCell ⟨g, j, none⟩ (.bool true)) (ms.set j true) := by
  refine ⟨by rw [List.length_set]; exact h.1, ?_⟩
  have := (h.2.stored j (.bool true)).1
  rw [← List.map_set] at this
  exact this
theorem edge1_skip {p : Int} {met : List Bool} {l : Lnk} (h : ¬ (0 ≤ l.frm ∧ 0 ≤ l.to ∧ (l.frm = p ∨ met.getD l.frm.toNat false = true))) : edge1 p met l = met := if_neg h
theorem edge1_hit {p : Int} {met : List Bool} {l : Lnk} (h : 0 ≤ l.frm ∧ 0 ≤ l.to ∧ (l.frm = p ∨ met.getD l.frm.toNat false = true)) : edge1 p met l = met.set l.to.toNat true := if_pos h
theorem sweep_step {p : Int} {ls : List Lnk} {k : Nat} {x : Lnk} (hx : ls[k]? = some x) (ms : List Bool) : sweep p (ls.take (k + 1)) ms = edge1 p (sweep p (ls.take k) ms) x := by
  have hk := (List.getElem?_eq_some_iff.1 hx).1
  unfold sweep
  rw [List.take_succ_eq_append_getElem hk, (List.getElem?_eq_some_iff.1 hx).2, List.foldl_append]
  rfl

set_option maxRecDepth 100000 in
set_option maxHeartbeats 8000000 in
theorem sreached_any (v : Value) (n : Net) (p : Int) (w : World) (h : NetV w v n) (ho : okN n = true) :
    Calls Try.prog 69 #[v, .int .i64 p] w fun e w' => e = .returned (.slice (some ⟨w.heap.size + 1, 0, none⟩) n.progs.length n.progs.length) ∧ RowB (w.heap.size + 1) n.progs.length w' (rnd p n.links n.progs.length n.progs.length) ∧ Below w.heap.size w w' := by
  obtain ⟨c, d, rfl, hp, hl⟩ := h
  have HL := Lib.hid hl
  obtain ⟨la, lcap, rfl⟩ := hl.shape
  obtain ⟨pa, pcap, rfl⟩ := hp.shape
  have hm12 := (okN_len ho).1
  have hl30 := (okN_len ho).2.1
  have hok := okN_ends ho
  obtain ⟨m, hm⟩ : ∃ m, m = n.progs.length := ⟨_, rfl⟩
  obtain ⟨ll, hll⟩ : ∃ m, m = n.links.length := ⟨_, rfl⟩
  rw [← hm] at hok hm12 ⊢
  rw [← hll] at hl30 HL ⊢
  have HM := Lib.hid hll
  have HOK := Lib.hid hok
  clear hp hl hm hll ho hok
  obtain ⟨i0, hi, hz0, hz1, hz2⟩ := infoB_parts
  have hb := Lib.hid ((Below.refl w.heap.size w).al (.cells #[.slice pa m pcap, .slice la ll lcap] 32))
  have hH := Lib.hid (hp1 w (.cells #[.slice pa m pcap, .slice la ll lcap] 32))
  go_enter Try.func69, Try.ntmps69
  go_wp2_with (at_make; refine wpList_make_full _ rfl _ _ 93 rfl (w.heap.size + 1) 4 i0 (.bool false) 1 Try.underlying93 hi hz0 hz1 _ _ _ _ m rfl rfl rfl rfl ?b2 ?b3 ?b4 ?_)
  case b2 => rw [hz2]; omega
  case b3 => unfold maxLen; omega
  case b4 => simp
  intro w1 hown hgrow
  have HG1 := Lib.hid ((Below.refl (w.heap.size + 1) (w.alloc (.cells #[.slice pa m pcap, .slice la ll lcap] 32))).grown hgrow (by simp) (by simp))
  have HR1 := Lib.hid (show RowB (w.heap.size + 1) m w1 (rnd p n.links m 0) from ⟨by simp [rnd], by
    have e : (madeCells #[Value.bool false] m).toList = (rnd p n.links m 0).map Value.bool := by rw [toList_madeCells_one]; simp [rnd]
    rw [← e]; exact hown⟩)
  have G1 := Lib.hid (show w1.heap[w.heap.size]? = some (.cells #[.slice pa m pcap, .slice la ll lcap] 32) from by rw [HG1.out.block w.heap.size (by omega)]; exact hH.out)
  obtain ⟨k0, k1⟩ := cells2 G1.out
  have gl := lt_of G1.out
  clear hgrow hown hi hz0 hz1 hz2
  go_wp2_with fail
  go_loopw [15] (fun i wr => ∃ k : Nat, k ≤ m ∧ i = .int .i64 k ∧ Hid (RowB (w.heap.size + 1) m wr (rnd p n.links m k)) ∧ Hid (Below (w.heap.size + 1) (w.alloc (.cells #[.slice pa m pcap, .slice la ll lcap] 32)) wr)) (fun i _ => m - (intOf i).toNat)
  case atStart => exact ⟨0, Nat.zero_le _, rfl, HR1, HG1⟩
  case round =>
    clear HR1 HG1 G1 k0 k1 gl
    obtain ⟨k, hk, rfl, HR, HW⟩ := hrel
    by_cases hlt : k < m
    · have G := Lib.hid (show wr.heap[w.heap.size]? = some (.cells #[.slice pa m pcap, .slice la ll lcap] 32) from by rw [HW.out.block w.heap.size (by omega)]; exact hH.out)
      obtain ⟨k0, k1⟩ := cells2 G.out
      have gl := lt_of G.out
      go_wp2_with fail
      go_loopw [20] (fun i wr => ∃ j : Nat, j ≤ ll ∧ i = .int .i64 j ∧ Hid (RowB (w.heap.size + 1) m wr (sweep p (n.links.take j) (rnd p n.links m k))) ∧ Hid (Below (w.heap.size + 1) (w.alloc (.cells #[.slice pa m pcap, .slice la ll lcap] 32)) wr)) (fun i _ => ll - (intOf i).toNat)
      case atStart => exact ⟨0, Nat.zero_le _, rfl, by simpa [sweep] using HR, HW⟩
      case round =>
        clear HR HW G k0 k1 gl
        obtain ⟨j, hj, rfl, HR, HW⟩ := hrel
        have HB := Lib.hid (hb.out.trans (HW.out.mono (by omega)))
        by_cases hjl : j < ll
        · obtain ⟨x, hx⟩ : ∃ x, n.links[j]? = some x := ⟨_, List.getElem?_eq_getElem (by rw [← HM.out]; exact hjl)⟩
          obtain ⟨lb, off, c, rfl, hbl, e0, e1, e2, e3, e4, e5⟩ := (HL.out.below HB.out).atb hx
          have HX := Lib.hid hx
          have hends := HOK.out x (List.mem_of_getElem? hx)
          have hgr := HR.out.lt
          obtain ⟨ms, hms⟩ : ∃ z, z = sweep p (n.links.take j) (rnd p n.links m k) := ⟨_, rfl⟩
          have HMS := Lib.hid hms
          rw [← hms] at HR
          obtain ⟨xf, xo, xt, xi, xk⟩ := x
          simp only [] at e0 e1 e2 e3 e4 e5 hends
          obtain ⟨ua, uc, rfl⟩ := e5.shape
          obtain ⟨ul, hul⟩ : ∃ z, z = xk.length := ⟨_, rfl⟩
          rw [← hul] at e4
          have hb1 := (Below.refl wr.heap.size wr).al (.cells #[.int .i64 xf, .int .i64 xo, .int .i64 xt, .int .i64 xi, .slice ua ul uc] 78)
          have HW1 := Lib.hid (HW.out.trans (hb1.mono (by omega)))
          have HR1 := Lib.hid (HR.out.below hb1)
          have hto := hends.2.1
          have hfr := hends.2.2
          clear hul e5 hx hms hb1 hends
          by_cases h0 : 0 ≤ xf
          · by_cases h1 : 0 ≤ xt
            · obtain ⟨kf, rfl⟩ : ∃ k : Nat, xf = k := ⟨xf.toNat, by omega⟩
              obtain ⟨kt, rfl⟩ : ∃ k : Nat, xt = k := ⟨xt.toNat, by omega⟩
              have lt1 : kf < m := by omega
              have lt2 : kt < m := by omega
              have li1 : (kf : Int) < (m : Int) := by omega
              have li2 : (kt : Int) < (m : Int) := by omega
              have cf := (HR.out.cell lt1).1
              have ct := HR.out.cell lt2
              have ct1 := ct.1
              have ct2 := ct.2
              have hg1 : w.heap.size + 1 < wr.heap.size := hgr
              clear ct hto hfr
              by_cases h2 : (kf : Int) = p
              · have HE := Lib.hid (edge1_hit (p := p) (met := ms) (l := ⟨kf, xo, kt, xi, xk⟩) ⟨h0, h1, .inl h2⟩)
                subst h2
                go_wp2_with fail
                go_roundw
                case rel => exact ⟨j + 1, by omega, by go_num, Lib.hid (by rw [sweep_step HX.out, ← HMS.out, HE.out]; exact (HR.out.put (j := kt)).below ((Below.refl _ _).al _)), Lib.hid ((HW.out.setCell (p := ⟨w.heap.size + 1, kt, none⟩) (Nat.le_refl _) _).alloc (by simp; omega) _)⟩
                case measure => simp [intOf]; omega
              · have d2 : ((kf : Int) == p) = false := by simpa using h2
                cases hb2 : ms.getD kf false with
                | true =>
                  rw [hb2] at cf
                  have HE := Lib.hid (edge1_hit (p := p) (met := ms) (l := ⟨kf, xo, kt, xi, xk⟩) ⟨h0, h1, .inr hb2⟩)
                  clear hb2
                  go_wp2_with fail
                  go_roundw
                  case rel => exact ⟨j + 1, by omega, by go_num, Lib.hid (by rw [sweep_step HX.out, ← HMS.out, HE.out]; exact (HR.out.put (j := kt)).below ((Below.refl _ _).al _)), Lib.hid ((HW.out.setCell (p := ⟨w.heap.size + 1, kt, none⟩) (Nat.le_refl _) _).alloc (by simp; omega) _)⟩
                  case measure => simp [intOf]; omega
                | false =>
                  rw [hb2] at cf
                  have HE := Lib.hid (edge1_skip (p := p) (met := ms) (l := ⟨kf, xo, kt, xi, xk⟩) (fun q => by rcases q.2.2 with z | z; exact h2 z; exact absurd ((show ms.getD kf false = true from z).symm.trans hb2) (by simp)))
                  clear hb2
                  go_wp2_with fail
                  go_roundw
                  case rel => exact ⟨j + 1, by omega, by go_num, Lib.hid (by rw [sweep_step HX.out, ← HMS.out, HE.out]; exact HR1.out), HW1⟩
                  case measure => simp [intOf]; omega
            · have HE := Lib.hid (edge1_skip (p := p) (met := ms) (l := ⟨xf, xo, xt, xi, xk⟩) (fun q => h1 q.2.1))
              have d1 : decide (xt ≥ 0) = false := decide_eq_false h1
              have d2 : decide (0 ≤ xt) = false := decide_eq_false h1
              go_wp2_with fail
              go_roundw
              case rel => exact ⟨j + 1, by omega, by go_num, Lib.hid (by rw [sweep_step HX.out, ← HMS.out, HE.out]; exact HR1.out), HW1⟩
              case measure => simp [intOf]; omega
          · have HE := Lib.hid (edge1_skip (p := p) (met := ms) (l := ⟨xf, xo, xt, xi, xk⟩) (fun q => h0 q.1))
            have d1 : decide (xf ≥ 0) = false := decide_eq_false h0
            have d2 : decide (0 ≤ xf) = false := decide_eq_false h0
            go_wp2_with fail
            go_roundw
            case rel => exact ⟨j + 1, by omega, by go_num, Lib.hid (by rw [sweep_step HX.out, ← HMS.out, HE.out]; exact HR1.out), HW1⟩
            case measure => simp [intOf]; omega
        · have e : sweep p (n.links.take j) (rnd p n.links m k) = rnd p n.links m (k + 1) := by rw [List.take_of_length_le (by rw [← HM.out]; omega)]; rfl
          rw [e] at HR
          go_wp2_with fail
          go_roundw
          case rel => exact ⟨k + 1, by omega, by go_num, HR, HW⟩
          case measure => simp [intOf]; omega
    · have e : k = m := by omega
      subst e
      go_wp2_with fail
      go_ret
      exact ⟨rfl, HR.out, hb.out.trans (HW.out.mono (by omega))⟩
end Go.Proofs.Ythniafpkkgcjnab
