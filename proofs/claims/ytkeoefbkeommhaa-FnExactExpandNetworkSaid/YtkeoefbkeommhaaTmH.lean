/-
  Links with tokens; the methods of a grown part. No statement of the seat is proved here.
-/
import Derived.Test.YtkeoefbkeommhaaTmM
namespace Go.Proofs.Ytkeoefbkeommhaa
open Go.RowKit

theorem anyT_step {p : Lnk → Bool} {ls : List Lnk} {j : Nat} {l : Lnk} (hx : ls[j]? = some l) (h : (ls.take j).any p = false) (hp : p l = false) : (ls.take (j + 1)).any p = false := by
  have hj := (List.getElem?_eq_some_iff.1 hx).1
  rw [List.take_succ_eq_append_getElem hj, (List.getElem?_eq_some_iff.1 hx).2, List.any_append, h]
  simp [hp]
set_option maxHeartbeats 1600000 in
theorem ihas_tok (a b c d : Int) (u : Value) (row : List Int) (w : World) (h : Sl w u row) :
    Calls Try.prog 72 #[.agg #[.int .i64 a, .int .i64 b, .int .i64 c, .int .i64 d, u]] w fun e w' => e = .returned (.bool (decide (0 < row.length))) ∧ Below w.heap.size w w' := by
  obtain ⟨ua, uc, rfl⟩ := h.shape
  have hlen := h.len
  obtain ⟨r, hr⟩ : ∃ r, r = decide (0 < row.length) := ⟨_, rfl⟩
  rw [← hr]
  obtain ⟨n, hn⟩ : ∃ n, n = row.length := ⟨_, rfl⟩
  rw [← hn] at hr hlen ⊢
  have HR := Lib.hid hr
  clear hr hn h
  have hb := Lib.hid ((Below.refl w.heap.size w).al (.cells #[.int .i64 a, .int .i64 b, .int .i64 c, .int .i64 d, .slice ua n uc] 68))
  by_cases h0 : 0 < n
  · have e := HR.out.trans (decide_eq_true h0)
    subst e
    have d1 : decide ((n : Int) > 0) = true := decide_eq_true (by omega)
    have d2 : decide (0 < (n : Int)) = true := decide_eq_true (by omega)
    go_enter Try.func72, Try.ntmps72
    go_wp2_with fail
    go_ret
    exact ⟨rfl, hb.out⟩
  · have e := HR.out.trans (decide_eq_false h0)
    subst e
    have d1 : decide ((n : Int) > 0) = false := decide_eq_false (by omega)
    have d2 : decide (0 < (n : Int)) = false := decide_eq_false (by omega)
    go_enter Try.func72, Try.ntmps72
    go_wp2_with fail
    go_ret
    exact ⟨rfl, hb.out⟩
set_option maxRecDepth 100000 in
set_option maxHeartbeats 4000000 in
theorem iidxT_any (v : Value) (ls : List Lnk) (w : World) (h : SlL w v ls) :
    Calls Try.prog 128 #[v, .func (.func 72) #[] #[]] w fun e w' => ∃ r : Int, e = .returned (.int .i64 r) ∧ decide (0 ≤ r) = ls.any hasT ∧ Below w.heap.size w w' := by
  have LL := h.len
  have HL := Lib.hid h
  obtain ⟨la, lcap, rfl⟩ := h.shape
  obtain ⟨ll, hll⟩ : ∃ z, z = ls.length := ⟨_, rfl⟩
  rw [← hll] at HL LL ⊢
  have NL := Lib.hid hll
  clear h hll
  go_enter Try.func128, Try.ntmps128
  go_wp2_with fail
  go_loopw [8] (fun i wr => ∃ j : Nat, j ≤ ll ∧ i = .int .i64 j ∧ Hid ((ls.take j).any hasT = false) ∧ Hid (Below w.heap.size w wr)) (fun i _ => ll - (intOf i).toNat)
  case atStart => exact ⟨0, Nat.zero_le _, rfl, Lib.hid rfl, Lib.hid (Below.refl _ _)⟩
  case round =>
    obtain ⟨j, hjl, rfl, HA, HBW⟩ := hrel
    by_cases hlt : j < ll
    case pos =>
      obtain ⟨x, hx⟩ : ∃ x, ls[j]? = some x := ⟨_, List.getElem?_eq_getElem (by rw [← NL.out]; exact hlt)⟩
      obtain ⟨gb, go, pcv, rfl, hgb, e0, e1, e2, e3, e4, es⟩ := (HL.out.below HBW.out).atb hx
      have HX := Lib.hid hx
      obtain ⟨x0, x1, x2, x3, row⟩ := x
      simp only [] at e0 e1 e2 e3 e4 es
      have CT0 := ihas_tok x0 x1 x2 x3 pcv row wr es
      rw [show decide (0 < row.length) = hasT ⟨x0, x1, x2, x3, row⟩ from rfl] at CT0
      obtain ⟨ua, uc, rfl⟩ := es.shape
      obtain ⟨ul, hul⟩ : ∃ q, q = row.length := ⟨_, rfl⟩
      rw [← hul] at e4 CT0
      clear hul es hx
      cases ht : hasT ⟨x0, x1, x2, x3, row⟩ with
      | true =>
        rw [ht] at CT0
        have CT := Lib.hid CT0
        have HAN := Lib.hid (show ls.any hasT = true from List.any_eq_true.2 ⟨_, List.mem_of_getElem? HX.out, ht⟩)
        clear ht CT0
        go_wp2_with (go_at_call 72; (with_reducible refine CT.out.mono ?_); rintro e w2 ⟨rfl, hb2⟩; have HB2 := Lib.hid (HBW.out.trans (hb2.mono HBW.out.size)); clear hb2)
        go_ret
        exact ⟨_, rfl, by rw [HAN.out]; exact decide_eq_true (by omega), HB2.out⟩
      | false =>
        rw [ht] at CT0
        have CT := Lib.hid CT0
        have HA1 := Lib.hid (anyT_step HX.out HA.out ht)
        clear ht CT0
        go_wp2_with (go_at_call 72; (with_reducible refine CT.out.mono ?_); rintro e w2 ⟨rfl, hb2⟩; have HB2 := Lib.hid (HBW.out.trans (hb2.mono HBW.out.size)); clear hb2)
        go_roundw
        case rel => exact ⟨j + 1, by omega, by go_num, HA1, HB2⟩
        case measure => simp [intOf]; omega
    obtain rfl : ll = j := by omega
    have HAN := Lib.hid (show ls.any hasT = false by have q := HA.out; rwa [List.take_of_length_le (by rw [← NL.out]; omega)] at q)
    go_wp2_with fail
    go_ret
    exact ⟨_, rfl, by rw [HAN.out]; rfl, HBW.out⟩
set_option maxHeartbeats 1600000 in
theorem icontT_any (v : Value) (ls : List Lnk) (w : World) (h : SlL w v ls) :
    Calls Try.prog 71 #[v, .func (.func 72) #[] #[]] w fun e w' => e = .returned (.bool (ls.any hasT)) ∧ Below w.heap.size w w' := by
  have CI := Lib.hid (iidxT_any v ls w h)
  obtain ⟨a, cap, rfl⟩ := h.shape
  obtain ⟨b, hb⟩ : ∃ b, b = ls.any hasT := ⟨_, rfl⟩
  rw [← hb] at CI ⊢
  clear hb h
  go_enter Try.func71, Try.ntmps71
  go_wp2_with (go_at_call 128; (with_reducible refine CI.out.mono ?_); rintro e w' ⟨r, rfl, hd, hb⟩; have HD := Lib.hid hd; have HB := Lib.hid hb; clear hd hb)
  go_ret
  exact ⟨ret_bool HD.out.symm, HB.out⟩
end Go.Proofs.Ytkeoefbkeommhaa
