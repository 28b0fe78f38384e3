/-
  What the model's l3To, l3From, l3Ends answer. No statement of the seat is proved here.
-/
import Derived.Test.YtjphamgkigekkaaNetW
namespace Go.Proofs.Ytjphamgkigekkaa
open Go.RowKit

theorem atE_m1 {g : Lnk → End} {ls : List Lnk} {e : End} (h1 : -1 ≤ atE g ls e) (h2 : ¬ 0 ≤ atE g ls e) : atE g ls e = -1 := by omega

set_option maxRecDepth 100000 in
set_option maxHeartbeats 4000000 in
theorem sto_any (v : Value) (n : Net) (p port : Int) (w : World) (h : NetV w v n) :
    Calls Try.prog 78 #[v, .int .i64 p, .int .i64 port] w fun e w' => e = .returned (.int .i64 (atE Lnk.tgt n.links (p, port))) ∧ Below w.heap.size w w' := by
  obtain ⟨c, d, rfl, hp, hl⟩ := h
  obtain ⟨ps, ls⟩ := n
  simp only [] at hp hl ⊢
  clear hp
  have hll := hl.len
  have HL := Lib.hid hl
  obtain ⟨la, lcap, rfl, _, _, _, hrest⟩ := hl
  obtain ⟨n, hn⟩ : ∃ n, n = ls.length := ⟨_, rfl⟩
  obtain ⟨r, hr⟩ : ∃ r, r = atE Lnk.tgt ls (p, port) := ⟨_, rfl⟩
  rw [← hr]
  rw [← hn] at hll ⊢
  have HN := Lib.hid hn
  have HR := Lib.hid hr
  clear hn hr
  have hb := Lib.hid ((Below.refl w.heap.size w).al (.cells #[c, .slice la n lcap] 34))
  go_enter Try.func78, Try.ntmps78
  go_wp2_with fail
  go_loopw [7, 13] (fun a i wr => ∃ (k : Nat) (z : Int), k ≤ n ∧ i = .int .i64 k ∧ a = .int .i64 z ∧ Hid (z = atE Lnk.tgt (ls.take k) (p, port)) ∧ -1 ≤ z ∧ Hid (Below w.heap.size w wr)) (fun _ i _ => n - (intOf i).toNat)
  case atStart => exact ⟨0, -1, Nat.zero_le _, rfl, rfl, Lib.hid (by rw [List.take_zero, atE_nil]), by omega, Lib.hid hb.out⟩
  case round =>
    obtain ⟨k, z, hk, rfl, rfl, HZ, hz1, HB⟩ := hrel
    by_cases hlt : k < n
    · rcases hrest with rfl | ⟨b, off, rfl, hbl, hcell⟩
      · exact absurd hlt (by have := HN.out; simp at this; omega)
      · obtain ⟨x, hx⟩ : ∃ x, ls[k]? = some x := ⟨_, List.getElem?_eq_getElem (by rw [← HN.out]; exact hlt)⟩
        obtain ⟨u, e0, e1, e2, e3, e4, _, e5⟩ := hcell k x hx
        obtain ⟨ua, uc, e6⟩ := e5.shape
        have c0 := (HB.out.cell (p := ⟨b, off + k * 5, none⟩) hbl).trans e0
        have c1 := (HB.out.cell (p := ⟨b, off + k * 5 + 1, none⟩) hbl).trans e1
        have c2 := (HB.out.cell (p := ⟨b, off + k * 5 + 2, none⟩) hbl).trans e2
        have c3 := (HB.out.cell (p := ⟨b, off + k * 5 + 3, none⟩) hbl).trans e3
        have c4 := (HB.out.cell (p := ⟨b, off + k * 5 + 4, none⟩) hbl).trans e4
        have hbl2 : b < wr.heap.size := Nat.lt_of_lt_of_le hbl HB.out.size
        have HX := Lib.hid hx
        clear hx hcell e0 e1 e2 e3 e4 e5
        obtain ⟨xf, xo, xt, xi, xk⟩ := x
        simp only [] at c0 c1 c2 c3 c4 e6
        obtain ⟨ul, hul⟩ : ∃ z, z = xk.length := ⟨_, rfl⟩
        rw [← hul] at e6
        clear hul
        subst e6
        have HB5 := Lib.hid (HB.out.trans (((Below.refl wr.heap.size wr).al (.cells #[.int .i64 xf, .int .i64 xo, .int .i64 xt, .int .i64 xi, .slice ua ul uc] 82)).mono HB.out.size))
        by_cases h1 : xt = p
        · by_cases h2 : xi = port
          · have HE := Lib.hid (show Lnk.tgt ⟨xf, xo, xt, xi, xk⟩ = (p, port) by rw [← h1, ← h2]; rfl)
            subst h1
            subst h2
            by_cases h3 : 0 ≤ z
            · have d1 : decide (z ≥ 0) = true := decide_eq_true h3
              have d2 : decide (0 ≤ z) = true := decide_eq_true h3
              have HT := Lib.hid (atE_two HX.out HE.out (by rw [← HZ.out]; exact h3))
              go_wp2_with fail
              go_ret
              have hh := HR.out.trans HT.out
              subst hh
              exact ⟨rfl, HB5.out⟩
            · have d1 : decide (z ≥ 0) = false := decide_eq_false h3
              have d2 : decide (0 ≤ z) = false := decide_eq_false h3
              have HT := Lib.hid (atE_hit HX.out HE.out (by rw [← HZ.out]; omega))
              go_wp2_with fail
              go_roundw
              case rel => exact ⟨k + 1, k, by omega, by go_num, rfl, Lib.hid HT.out.symm, by omega, HB5⟩
              case measure => simp [intOf]; omega
          · have HE := Lib.hid (show Lnk.tgt ⟨xf, xo, xt, xi, xk⟩ ≠ (p, port) from fun e => h2 (congrArg Prod.snd e))
            subst h1
            have d1 : (xi == port) = false := by simpa using h2
            go_wp2_with fail
            go_roundw
            case rel => exact ⟨k + 1, z, by omega, by go_num, rfl, Lib.hid (by rw [atE_skip HX.out HE.out]; exact HZ.out), hz1, HB5⟩
            case measure => simp [intOf]; omega
        · have HE := Lib.hid (show Lnk.tgt ⟨xf, xo, xt, xi, xk⟩ ≠ (p, port) from fun e => h1 (congrArg Prod.fst e))
          have d1 : (xt == p) = false := by simpa using h1
          go_wp2_with fail
          go_roundw
          case rel => exact ⟨k + 1, z, by omega, by go_num, rfl, Lib.hid (by rw [atE_skip HX.out HE.out]; exact HZ.out), hz1, HB5⟩
          case measure => simp [intOf]; omega
    · have hh : z = r := by
        rw [HZ.out, HR.out, List.take_of_length_le (by rw [← HN.out]; omega)]
      subst hh
      go_wp2_with fail
      go_ret
      exact ⟨rfl, HB.out⟩

set_option maxRecDepth 100000 in
set_option maxHeartbeats 4000000 in
theorem sfrom_any (v : Value) (n : Net) (p port : Int) (w : World) (h : NetV w v n) :
    Calls Try.prog 108 #[v, .int .i64 p, .int .i64 port] w fun e w' => e = .returned (.int .i64 (atE Lnk.src n.links (p, port))) ∧ Below w.heap.size w w' := by
  obtain ⟨c, d, rfl, hp, hl⟩ := h
  obtain ⟨ps, ls⟩ := n
  simp only [] at hp hl ⊢
  clear hp
  have hll := hl.len
  have HL := Lib.hid hl
  obtain ⟨la, lcap, rfl, _, _, _, hrest⟩ := hl
  obtain ⟨n, hn⟩ : ∃ n, n = ls.length := ⟨_, rfl⟩
  obtain ⟨r, hr⟩ : ∃ r, r = atE Lnk.src ls (p, port) := ⟨_, rfl⟩
  rw [← hr]
  rw [← hn] at hll ⊢
  have HN := Lib.hid hn
  have HR := Lib.hid hr
  clear hn hr
  have hb := Lib.hid ((Below.refl w.heap.size w).al (.cells #[c, .slice la n lcap] 34))
  go_enter Try.func108, Try.ntmps108
  go_wp2_with fail
  go_loopw [7, 13] (fun a i wr => ∃ (k : Nat) (z : Int), k ≤ n ∧ i = .int .i64 k ∧ a = .int .i64 z ∧ Hid (z = atE Lnk.src (ls.take k) (p, port)) ∧ -1 ≤ z ∧ Hid (Below w.heap.size w wr)) (fun _ i _ => n - (intOf i).toNat)
  case atStart => exact ⟨0, -1, Nat.zero_le _, rfl, rfl, Lib.hid (by rw [List.take_zero, atE_nil]), by omega, Lib.hid hb.out⟩
  case round =>
    obtain ⟨k, z, hk, rfl, rfl, HZ, hz1, HB⟩ := hrel
    by_cases hlt : k < n
    · rcases hrest with rfl | ⟨b, off, rfl, hbl, hcell⟩
      · exact absurd hlt (by have := HN.out; simp at this; omega)
      · obtain ⟨x, hx⟩ : ∃ x, ls[k]? = some x := ⟨_, List.getElem?_eq_getElem (by rw [← HN.out]; exact hlt)⟩
        obtain ⟨u, e0, e1, e2, e3, e4, _, e5⟩ := hcell k x hx
        obtain ⟨ua, uc, e6⟩ := e5.shape
        have c0 := (HB.out.cell (p := ⟨b, off + k * 5, none⟩) hbl).trans e0
        have c1 := (HB.out.cell (p := ⟨b, off + k * 5 + 1, none⟩) hbl).trans e1
        have c2 := (HB.out.cell (p := ⟨b, off + k * 5 + 2, none⟩) hbl).trans e2
        have c3 := (HB.out.cell (p := ⟨b, off + k * 5 + 3, none⟩) hbl).trans e3
        have c4 := (HB.out.cell (p := ⟨b, off + k * 5 + 4, none⟩) hbl).trans e4
        have hbl2 : b < wr.heap.size := Nat.lt_of_lt_of_le hbl HB.out.size
        have HX := Lib.hid hx
        clear hx hcell e0 e1 e2 e3 e4 e5
        obtain ⟨xf, xo, xt, xi, xk⟩ := x
        simp only [] at c0 c1 c2 c3 c4 e6
        obtain ⟨ul, hul⟩ : ∃ z, z = xk.length := ⟨_, rfl⟩
        rw [← hul] at e6
        clear hul
        subst e6
        have HB5 := Lib.hid (HB.out.trans (((Below.refl wr.heap.size wr).al (.cells #[.int .i64 xf, .int .i64 xo, .int .i64 xt, .int .i64 xi, .slice ua ul uc] 82)).mono HB.out.size))
        by_cases h1 : xf = p
        · by_cases h2 : xo = port
          · have HE := Lib.hid (show Lnk.src ⟨xf, xo, xt, xi, xk⟩ = (p, port) by rw [← h1, ← h2]; rfl)
            subst h1
            subst h2
            by_cases h3 : 0 ≤ z
            · have d1 : decide (z ≥ 0) = true := decide_eq_true h3
              have d2 : decide (0 ≤ z) = true := decide_eq_true h3
              have HT := Lib.hid (atE_two HX.out HE.out (by rw [← HZ.out]; exact h3))
              go_wp2_with fail
              go_ret
              have hh := HR.out.trans HT.out
              subst hh
              exact ⟨rfl, HB5.out⟩
            · have d1 : decide (z ≥ 0) = false := decide_eq_false h3
              have d2 : decide (0 ≤ z) = false := decide_eq_false h3
              have HT := Lib.hid (atE_hit HX.out HE.out (by rw [← HZ.out]; omega))
              go_wp2_with fail
              go_roundw
              case rel => exact ⟨k + 1, k, by omega, by go_num, rfl, Lib.hid HT.out.symm, by omega, HB5⟩
              case measure => simp [intOf]; omega
          · have HE := Lib.hid (show Lnk.src ⟨xf, xo, xt, xi, xk⟩ ≠ (p, port) from fun e => h2 (congrArg Prod.snd e))
            subst h1
            have d1 : (xo == port) = false := by simpa using h2
            go_wp2_with fail
            go_roundw
            case rel => exact ⟨k + 1, z, by omega, by go_num, rfl, Lib.hid (by rw [atE_skip HX.out HE.out]; exact HZ.out), hz1, HB5⟩
            case measure => simp [intOf]; omega
        · have HE := Lib.hid (show Lnk.src ⟨xf, xo, xt, xi, xk⟩ ≠ (p, port) from fun e => h1 (congrArg Prod.fst e))
          have d1 : (xf == p) = false := by simpa using h1
          go_wp2_with fail
          go_roundw
          case rel => exact ⟨k + 1, z, by omega, by go_num, rfl, Lib.hid (by rw [atE_skip HX.out HE.out]; exact HZ.out), hz1, HB5⟩
          case measure => simp [intOf]; omega
    · have hh : z = r := by
        rw [HZ.out, HR.out, List.take_of_length_le (by rw [← HN.out]; omega)]
      subst hh
      go_wp2_with fail
      go_ret
      exact ⟨rfl, HB.out⟩
end Go.Proofs.Ytjphamgkigekkaa
