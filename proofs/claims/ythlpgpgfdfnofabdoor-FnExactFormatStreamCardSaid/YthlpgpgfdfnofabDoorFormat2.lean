/-
  What the program's FormatStream answers. No statement of the seat is proved here.
-/
import Derived.Test.YthlpgpgfdfnofabDoorFormat
import Derived.Lib.AppendIntMem
namespace Go.Proofs.YthlpgpgfdfnofabDoor
open Go.RowKit

theorem infoS : (Tryd.prog.info? 9).map (fun i => (i.zero, i.size, i.bytes)) = some (some (.string ⟨#[]⟩), 1, 16) := by kernel_rfl
theorem gPow : Tryd.prog.globalNamed "internal/strconv.uint64pow10" = some 0 := by kernel_rfl
/-- The library's table of powers, which Itoa reads. -/
def Tab (w : World) : Prop := Go.Lib.TabIs Tryd.prog w "internal/strconv.uint64pow10" .u64 Go.Lib.pow10Tab
theorem Tab.below {w w' : World} (h : Tab w) (hb : Below w.heap.size w w') : Tab w' :=
  var?_below hb gPow (World.block_lt_of_cell? w _ (Go.Lib.TabIs.cell h gPow 0 (by decide))) h

theorem Own.mono' {lo lo' : Nat} {T : TypeId} {n : Nat} {w : World} {v : Value} {xs : List Value} (h : w.ownsRow lo T 1 v n xs) (hl : lo' ≤ lo) : w.ownsRow lo' T 1 v n xs := by
  refine ⟨h.1, ?_⟩
  rcases h.2 with hn | ⟨g, cap, cur, rfl, hbb, hg, rest⟩
  · exact .inl hn
  · exact .inr ⟨g, cap, cur, rfl, by omega, hg, rest⟩
theorem row_below {lo n : Nat} {T : TypeId} {w w' : World} {v : Value} {xs : List Value} (h : w.ownsRow lo T 1 v n xs) (hb : Below w.heap.size w w') : w'.ownsRow lo T 1 v n xs := by
  have hl := World.ownsRow.lt h
  refine ⟨h.1, ?_⟩
  rcases h.2 with hn | ⟨g, cap, cur, rfl, hbb, hg, rest⟩
  · exact .inl hn
  · refine .inr ⟨g, cap, cur, rfl, hbb, ?_, rest⟩
    rw [hb.block g (hl g rfl).2]
    exact hg
def SV (xs : List Int) (k : Nat) : List Value := (xs.take k).map fun x => Value.string ⟨(Go.Lib.itoa x).toArray⟩
def fillV (ys : List Value) (z : Value) (n : Nat) : List Value := ys ++ List.replicate (n - ys.length) z
theorem SV_len {xs : List Int} {k : Nat} (h : k ≤ xs.length) : (SV xs k).length = k := by simp [SV]; omega
theorem SV_succ {xs : List Int} {k : Nat} {x : Int} (h : k < xs.length) (hx : x = xs.getD k 0) : SV xs (k + 1) = SV xs k ++ [.string ⟨(Go.Lib.itoa x).toArray⟩] := by
  unfold SV; rw [take_snoc' h, ← hx]; simp
theorem fillV_len {ys : List Value} {z : Value} {n : Nat} (h : ys.length ≤ n) : (fillV ys z n).length = n := by simp [fillV]; omega
theorem fillV_set {ys : List Value} {z v : Value} {n : Nat} (h : ys.length < n) : (fillV ys z n).set ys.length v = fillV (ys ++ [v]) z n := by
  obtain ⟨m, hm⟩ : ∃ m, n - ys.length = m + 1 := ⟨n - ys.length - 1, by omega⟩
  have hm2 : n - (ys ++ [v]).length = m := by simp; omega
  unfold fillV
  rw [hm, hm2]
  simp [List.replicate_succ]
theorem fillV_zero {w1 : World} {B n : Nat} {v : Value} {z : Value} {T : TypeId} (h : w1.ownsRow B T 1 v n (madeCells #[z] n).toList) : w1.ownsRow B T 1 v n (fillV [] z n) := by
  have e : fillV [] z n = List.replicate n z := by simp [fillV]
  rw [e, ← toList_madeCells_one]; exact h
theorem fillV_all {ys : List Value} {z : Value} {n : Nat} (h : ys.length = n) : fillV ys z n = ys := by simp [fillV, h]
theorem join_le {xs : List Int} (h : isS xs = true) : (Go.Lib.join (xs.map Go.Lib.itoa) [44]).length ≤ 140737488355328 := by
  have hl := isS_len h
  cases xs with
  | nil => simp [Go.Lib.join_nil]
  | cons x r =>
    have hx := isTok_bd (isS_all h x List.mem_cons_self)
    have h1 := itoa_len hx.1 hx.2
    have h2 := tail_len (r := r) (fun y hy => isTok_bd (isS_all h y (List.mem_cons_of_mem _ hy))) r.length
    rw [List.take_of_length_le (by simp)] at h2
    rw [List.map_cons, Go.Lib.join_cons, List.length_append]
    simp at hl
    omega

set_option maxRecDepth 100000 in
set_option maxHeartbeats 1600000 in
theorem iformat_any (v : Value) (xs : List Int) (w : World) (h : Sl w v xs) (ht : Tab w) :
    Calls Tryd.prog 7 #[v] w fun e w' => e = .returned (.string ⟨(fmtT xs).toArray⟩) ∧ Below w.heap.size w w' := by
  obtain ⟨a, cap, rfl, hr⟩ := h
  have C1 := Lib.hid (istream_any _ xs w ⟨a, cap, rfl, hr⟩)
  have HT := Lib.hid ht
  clear ht
  cases h1 : isS xs with
  | false =>
    rw [fmt1 h1]
    rw [h1] at C1
    clear h1 hr
    go_enter Tryd.func7, Tryd.ntmps7
    go_wp2_with fail
    refine C1.out.mono ?_
    rintro e w' ⟨rfl, rfl⟩
    go_wp2_with fail
    go_ret
    exact ⟨rfl, Below.refl _ _⟩
  | true =>
    have hl1 := isS_len h1
    rw [h1] at C1
    by_cases hn : xs = []
    · rw [fmt2 h1 hn]
      subst hn
      clear h1 hr
      go_enter Tryd.func7, Tryd.ntmps7
      go_wp2_with fail
      refine C1.out.mono ?_
      rintro e w' ⟨rfl, rfl⟩
      go_wp2_with fail
      go_ret
      exact ⟨rfl, Below.refl _ _⟩
    · rw [fmt3 h1 hn]
      have HJ := Lib.hid (join_le h1)
      have HS1 := Lib.hid h1
      rcases hr.2.2.2 with hc | ⟨b, off, rfl, hbl, hcell⟩
      · exact absurd hc hn
      · have hn0 : 0 < xs.length := List.length_pos_iff.2 hn
        have HCELL := Lib.hid hcell
        obtain ⟨i0, hi, hz0, hz1, hz2⟩ := info_parts infoS
        clear h1 hr hn hcell
        obtain ⟨n, hnn⟩ : ∃ n, xs.length = n := ⟨_, rfl⟩
        rw [hnn] at C1 hl1 hn0 ⊢
        have HN := Lib.hid hnn
        clear hnn
        obtain ⟨J, hJ⟩ : ∃ J, Go.Lib.join (xs.map Go.Lib.itoa) [44] = J := ⟨_, rfl⟩
        rw [hJ]
        have HJE := Lib.hid hJ
        clear hJ
        go_enter Tryd.func7, Tryd.ntmps7
        go_wp2_with fail
        refine C1.out.mono ?_
        rintro e w' ⟨rfl, rfl⟩
        clear C1
        go_wp2_with (at_make; refine wpList_make_full _ rfl _ _ 32 rfl w.heap.size 9 i0 (.string ⟨#[]⟩) 1 Tryd.underlying32 hi hz0 hz1 _ _ _ _ n rfl rfl rfl rfl ?b2 ?b3 ?b4 ?_)
        case b2 => rw [hz2]; omega
        case b3 => unfold maxLen; omega
        case b4 => exact Nat.le_refl _
        intro w1 hown hgrow
        have hb := (Below.refl w.heap.size w).grown hgrow (Nat.le_refl _) (by simp)
        have HO0 := Lib.hid (fillV_zero (w1 := w1) (B := w.heap.size) (T := 9) (z := .string ⟨#[]⟩) hown)
        clear hgrow hi hz0 hz1 hz2 hown
        go_wp2_with fail
        go_loopw [17] (fun i wr => ∃ k : Nat, k ≤ n ∧ i = .int .i64 k ∧ Hid (wr.ownsRow w.heap.size 9 1 (.slice (some ⟨w.heap.size, 0, none⟩) n n) n (fillV (SV xs k) (.string ⟨#[]⟩) n)) ∧ Below w.heap.size w wr) (fun i _ => n - (intOf i).toNat)
        case atStart => exact ⟨0, Nat.zero_le _, rfl, HO0, hb⟩
        case round =>
          clear HO0 hb
          obtain ⟨k, hk, rfl, HO, hb⟩ := hrel
          by_cases hlt : k < n
          · obtain ⟨x, hx⟩ : ∃ x, x = xs.getD k 0 := ⟨_, rfl⟩
            have hck := (hb.cell (p := ⟨b, off + k, none⟩) hbl).trans (HCELL.out k (by rw [HN.out]; exact hlt))
            rw [← hx] at hck
            have hxb : -999999 ≤ x ∧ x ≤ 999999 := by rw [hx]; exact tok_get HS1.out (by rw [HN.out]; exact hlt)
            have ES := Lib.hid (SV_succ (xs := xs) (by rw [HN.out]; exact hlt) hx)
            have EL := Lib.hid (SV_len (xs := xs) (k := k) (by rw [HN.out]; exact hk))
            have HT2 := Lib.hid (HT.out.below hb)
            have HB := Lib.hid hb
            clear hx hb
            go_wp2_with fail
            refine (Tryd.strconv_Itoa x (by omega) (by omega) _ HT2.out).mono ?_
            rintro e w2 ⟨rfl, q, os, hw2⟩
            have hbw : Below wr.heap.size wr w2 := by rw [hw2]; exact Go.Lib.below_grow _ wr (Nat.le_refl _) q os
            have HO2 := Lib.hid (row_below HO.out hbw)
            have HB2 := Lib.hid (HB.out.trans (hbw.mono HB.out.size))
            clear hw2 hbw HO HB HT2
            have hfz := HO2.out.frozenAt k
            have hck3 : ∃ q, w2.cell? ⟨w.heap.size, k, none⟩ = some q := by
              rw [HO2.out.cellAt k (by omega), List.getElem?_eq_getElem (by rw [fillV_len (by rw [EL.out]; omega)]; exact hlt)]; exact ⟨_, rfl⟩
            obtain ⟨q2, hq⟩ := hck3
            have R := HO2.out.stored k (.string ⟨(Go.Lib.itoa x).toArray⟩)
            have e := fillV_set (ys := SV xs k) (z := .string ⟨#[]⟩) (n := n) (v := .string ⟨(Go.Lib.itoa x).toArray⟩) (by rw [EL.out]; exact hlt)
            rw [EL.out] at e
            rw [e, ← ES.out] at R
            have HR := Lib.hid R
            clear R e HO2
            go_wp2_with fail
            go_roundw
            case rel => exact ⟨k + 1, by omega, by go_num, HR.out.1, HB2.out.setCell (Nat.le_refl _) _⟩
            case measure => simp [intOf]; omega
          · obtain rfl : k = n := by omega
            have HO2 := Lib.hid (show wr.ownsRow w.heap.size 9 1 (.slice (some ⟨w.heap.size, 0, none⟩) k k) k (SV xs k) by
              have := HO.out
              rwa [fillV_all (SV_len (by rw [HN.out]; exact Nat.le_refl _))] at this)
            have hlt2 := (HO2.out.lt w.heap.size rfl).2
            have HB := Lib.hid hb
            have CJ := Lib.hid (Tryd.strings_Join w.heap.size 0 k (xs.map fun x => (⟨(Go.Lib.itoa x).toArray⟩ : ByteArray)) ⟨#[44]⟩ wr
              (fun j y hy => by
                have := HO2.out.cells (g := w.heap.size) rfl j (.string y) (by
                  unfold SV
                  rw [List.take_of_length_le (by rw [HN.out]; exact Nat.le_refl _)]
                  simpa using hy)
                rwa [Addr.add_lit] at this) hlt2 (by rw [List.length_map, HN.out]; omega) (by rw [List.length_map, HN.out]; exact Nat.le_refl _)
              (by
                have := HJ.out
                simpa [List.map_map, Function.comp_def] using this))
            have EJ := Lib.hid (show Go.Lib.join ((xs.map fun x => (⟨(Go.Lib.itoa x).toArray⟩ : ByteArray)).map (·.data.toList)) (⟨#[44]⟩ : ByteArray).data.toList = J by
              rw [← HJE.out]
              simp [List.map_map, Function.comp_def])
            rw [EJ.out] at CJ
            rw [List.length_map, HN.out] at CJ
            clear HO hb HJ HJE EJ HO2
            go_wp2_with fail
            refine CJ.out.mono ?_
            rintro e w3 ⟨rfl, hb3⟩
            have hb4 := HB.out.trans (hb3.mono HB.out.size)
            clear hb3
            go_wp2_with fail
            go_ret
            exact ⟨rfl, hb4⟩

end Go.Proofs.YthlpgpgfdfnofabDoor
