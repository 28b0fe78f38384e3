/-
  Copies of programs and links, of the program and of the model: l3Program, l3Link, copyOfProgram, slices.Clone. No statement of the seat is proved here.
-/
import Derived.Test.YtkeoefbkeommhaaNetC
import Derived.Test.YtkeoefbkeommhaaMlt
import Derived.Deep.RegionHeld3
import Derived.Deep.RegionLaw
import Derived.Deep.Cut
import Derived.Deep.CutRange
import Derived.Outline
namespace Go.Proofs.Ytkeoefbkeommhaa
open Go.RowKit

theorem row_shape {w : World} {lo T sz n : Nat} {v : Value} {cs : List Value} (h : w.ownsRow lo T sz v n cs) : ∃ a c, v = .slice a n c := by
  rcases h.2 with ⟨rfl, rfl⟩ | ⟨g, cap, cur, rfl, _⟩
  · exact ⟨_, _, rfl⟩
  · exact ⟨_, _, rfl⟩
theorem lit0T (T sz : Nat) (w : World) : (w.alloc (.cells #[] T)).ownsRow w.heap.size T sz (.slice (some ⟨w.heap.size, 0, none⟩) 0 0) 0 [] :=
  ⟨by simp, .inr ⟨w.heap.size, 0, #[], rfl, Nat.le_refl _, hp1 w _, Nat.le_refl _, Nat.zero_le _, by simp, by simp⟩⟩

theorem World.cell_al {w : World} {p : Addr} {y : Value} (o : Obj) (h : w.cell? p = some y) : (w.alloc o).cell? p = some y := by
  rw [World.cell?_of_block (Below.heap_alloc _ _ _ (World.block_lt_of_cell? w _ h))]; exact h


set_option maxRecDepth 100000 in
set_option maxHeartbeats 4000000 in
theorem icloneI_any (u : Value) (code : List Ins) (w : World) (h : SlI w u code) (hl : code.length ≤ 1100000) :
    Calls Try.prog 157 #[u] w fun e w' => ∃ c, e = .returned c ∧ OwnI w.heap.size w' c code ∧ Below w.heap.size w w' := by
  obtain ⟨a, cap, rfl⟩ := h.shape
  obtain ⟨_, hn, hc, hln, h1⟩ := h.srcI
  have HN := Lib.hid hn
  have HC := Lib.hid hc
  have HLN := Lib.hid hln
  have H1 := Lib.hid h1
  have HB := Lib.hid hl
  have HS := Lib.hid h
  clear hn hc hln h1 hl h
  have kn := fun (W : World) (a : Option Addr) (n c : Nat) => Lib.run_eql_slice_nil (P := Try.prog) W 77 156 a n c 0 0 Try.underlying77
  obtain ⟨i0, hi, hz0, hz1, hz2⟩ := infoI_parts
  cases a with
  | none =>
    obtain ⟨h0, h1⟩ := HN.out rfl
    have kb : (none : Option Addr).isNone = true := rfl
    go_enter Try.func157, Try.ntmps157
    go_wp2_with fail
    go_ret
    obtain rfl : code = [] := List.eq_nil_of_length_eq_zero h0
    exact ⟨.slice none 0 0, rfl, ⟨rfl, .inl ⟨rfl, rfl⟩⟩, Below.refl _ _⟩
  | some ad =>
    have kb : (some ad : Option Addr).isNone = false := rfl
    go_enter Try.func157, Try.ntmps157
    go_wp2_with (at_builtin; refine wpList_app_src Try.underlying77 hi hz0 hz1 hz2 rfl (by decide) rfl _ _ rfl rfl (lo := w.heap.size) (v := .slice (some ⟨w.heap.size, 0, none⟩) 0 0) (n := 0) (L := []) rfl rfl (lit0T _ _ _) HN.out (fun ad e j y hy => (World.cell_al _ (HC.out ad e j y hy))) HLN.out H1.out (by have := HB.out; unfold maxLen; omega) (by have := HB.out; omega) (by simp) ?_)
    intro v' w5 hown hgrow _
    have HB5 := Lib.hid (((Below.refl w.heap.size w).al (.cells #[] 156)).grown hgrow (by simp) (fun q e => by simp [Value.ownBlock] at e; omega))
    have HOW := Lib.hid hown
    clear hown hgrow
    go_wp2_with fail
    go_ret
    exact ⟨_, rfl, HOW.out, HB5.out⟩


set_option maxRecDepth 100000 in
set_option maxHeartbeats 4000000 in
theorem icloneP_any (u : Value) (xs : List Prg) (w : World) (h : SlP w u xs) (hl : xs.length ≤ 1100000) :
    Calls Try.prog 76 #[u] w fun e w' => ∃ c, e = .returned c ∧ (∃ us, us.length = xs.length ∧ (∀ (i : Nat) (u : Value) (p : Prg), us[i]? = some u → xs[i]? = some p → SlI w u p.code) ∧ VP w.heap.size w'.heap.size w' c us xs) ∧ Below w.heap.size w w' := by
  obtain ⟨a, cap, rfl⟩ := h.shape
  obtain ⟨_, hn, us, hus, hsl, hc, h1⟩ := h.cellsOf
  have HN := Lib.hid hn
  have HC := Lib.hid hc
  have HLN := Lib.hid (show (cellsP xs us).length = xs.length * 3 by rw [cellsP_len _ _ hus.symm, hus])
  have H1 := Lib.hid (cellsP_one xs us h1)
  have HB := Lib.hid hl
  have HU := Lib.hid hus
  have HSL := Lib.hid hsl
  clear hn hc h1 hl h hus hsl
  have kn := fun (W : World) (a : Option Addr) (n c : Nat) => Lib.run_eql_slice_nil (P := Try.prog) W 28 79 a n c 0 0 Try.underlying28
  obtain ⟨i0, hi, hz0, hz1, hz2⟩ := infoP_parts
  cases a with
  | none =>
    obtain ⟨h0, h1⟩ := HN.out rfl
    have kb : (none : Option Addr).isNone = true := rfl
    go_enter Try.func76, Try.ntmps76
    go_wp2_with fail
    go_ret
    obtain rfl : xs = [] := List.eq_nil_of_length_eq_zero h0
    exact ⟨.slice none 0 0, rfl, by first | exact ⟨[], rfl, fun i u p h => by simp at h, .inl ⟨rfl, rfl, rfl⟩⟩ | exact .inl ⟨rfl, rfl, rfl⟩, Below.refl _ _⟩
  | some ad =>
    have kb : (some ad : Option Addr).isNone = false := rfl
    go_enter Try.func76, Try.ntmps76
    go_wp2_with (at_builtin; refine wpList_app_src Try.underlying28 hi hz0 hz1 hz2 rfl (by decide) rfl _ _ rfl rfl (lo := w.heap.size) (v := .slice (some ⟨w.heap.size, 0, none⟩) 0 0) (n := 0) (L := []) rfl rfl (lit0T _ _ _) HN.out (fun ad e j y hy => (World.cell_al _ (HC.out ad e j y hy))) HLN.out H1.out (by have := HB.out; unfold maxLen; omega) (by have := HB.out; omega) (by simp) ?_)
    intro v' w5 hown hgrow _
    have HB5 := Lib.hid (((Below.refl w.heap.size w).al (.cells #[] 79)).grown hgrow (by simp) (fun q e => by simp [Value.ownBlock] at e; omega))
    have HOW := Lib.hid hown
    clear hown hgrow
    go_wp2_with fail
    go_ret
    exact ⟨_, rfl, ⟨us, HU.out, HSL.out, VP.ofRow HOW.out rfl HU.out⟩, HB5.out⟩


set_option maxRecDepth 100000 in
set_option maxHeartbeats 4000000 in
theorem icloneL_any (u : Value) (xs : List Lnk) (w : World) (h : SlL w u xs) (hl : xs.length ≤ 1100000) :
    Calls Try.prog 78 #[u] w fun e w' => ∃ c, e = .returned c ∧ (∃ us, us.length = xs.length ∧ (∀ (i : Nat) (u : Value) (p : Lnk), us[i]? = some u → xs[i]? = some p → Sl w u p.tok) ∧ VL w.heap.size w'.heap.size w' c us xs) ∧ Below w.heap.size w w' := by
  obtain ⟨a, cap, rfl⟩ := h.shape
  obtain ⟨_, hn, us, hus, hsl, hc, h1⟩ := h.cellsOf
  have HN := Lib.hid hn
  have HC := Lib.hid hc
  have HLN := Lib.hid (show (cellsL xs us).length = xs.length * 5 by rw [cellsL_len _ _ hus.symm, hus])
  have H1 := Lib.hid (cellsL_one xs us h1)
  have HB := Lib.hid hl
  have HU := Lib.hid hus
  have HSL := Lib.hid hsl
  clear hn hc h1 hl h hus hsl
  have kn := fun (W : World) (a : Option Addr) (n c : Nat) => Lib.run_eql_slice_nil (P := Try.prog) W 29 68 a n c 0 0 Try.underlying29
  obtain ⟨i0, hi, hz0, hz1, hz2⟩ := infoL_parts
  cases a with
  | none =>
    obtain ⟨h0, h1⟩ := HN.out rfl
    have kb : (none : Option Addr).isNone = true := rfl
    go_enter Try.func78, Try.ntmps78
    go_wp2_with fail
    go_ret
    obtain rfl : xs = [] := List.eq_nil_of_length_eq_zero h0
    exact ⟨.slice none 0 0, rfl, by first | exact ⟨[], rfl, fun i u p h => by simp at h, .inl ⟨rfl, rfl, rfl⟩⟩ | exact .inl ⟨rfl, rfl, rfl⟩, Below.refl _ _⟩
  | some ad =>
    have kb : (some ad : Option Addr).isNone = false := rfl
    go_enter Try.func78, Try.ntmps78
    go_wp2_with (at_builtin; refine wpList_app_src Try.underlying29 hi hz0 hz1 hz2 rfl (by decide) rfl _ _ rfl rfl (lo := w.heap.size) (v := .slice (some ⟨w.heap.size, 0, none⟩) 0 0) (n := 0) (L := []) rfl rfl (lit0T _ _ _) HN.out (fun ad e j y hy => (World.cell_al _ (HC.out ad e j y hy))) HLN.out H1.out (by have := HB.out; unfold maxLen; omega) (by have := HB.out; omega) (by simp) ?_)
    intro v' w5 hown hgrow _
    have HB5 := Lib.hid (((Below.refl w.heap.size w).al (.cells #[] 68)).grown hgrow (by simp) (fun q e => by simp [Value.ownBlock] at e; omega))
    have HOW := Lib.hid hown
    clear hown hgrow
    go_wp2_with fail
    go_ret
    exact ⟨_, rfl, ⟨us, HU.out, HSL.out, VL.ofRow HOW.out rfl HU.out⟩, HB5.out⟩


set_option maxRecDepth 100000 in
set_option maxHeartbeats 8000000 in
theorem sl3prog_any (x0 x1 : Int) (u : Value) (row : List Ins) (w : World) (h : SlI w u row) (hl : row.length ≤ 1100000) :
    Calls Try.prog 60 #[.agg #[.int .i64 x0, .int .i64 x1, u]] w fun e w' => ∃ c, e = .returned (.agg #[.int .i64 x0, .int .i64 x1, c]) ∧ OwnI w.heap.size w' c row ∧ Below w.heap.size w w' := by
  obtain ⟨ua, uc, rfl⟩ := h.shape
  have HS := Lib.hid h
  obtain ⟨ul, hul⟩ : ∃ z, z = row.length := ⟨_, rfl⟩
  rw [← hul] at HS hl ⊢
  have HU := Lib.hid hul
  have HLB := Lib.hid hl
  clear h hul hl
  have hb := Lib.hid (((Below.refl w.heap.size w).al (.cells #[.int .i64 x0, .int .i64 x1, .slice ua ul uc] 79)).al (.cells #[.int .i64 0, .int .i64 0, .slice none 0 0] 79))
  have hH := Lib.hid (hp21 w (.cells #[.int .i64 x0, .int .i64 x1, .slice ua ul uc] 79) (.cells #[.int .i64 0, .int .i64 0, .slice none 0 0] 79))
  have hH1 := Lib.hid (hp2 w (.cells #[.int .i64 x0, .int .i64 x1, .slice ua ul uc] 79) (.cells #[.int .i64 0, .int .i64 0, .slice none 0 0] 79))
  go_enter Try.func60, Try.ntmps60
  go_upto_region 1 with fail
  generalize hW : (w.alloc (.cells #[.int .i64 x0, .int .i64 x1, .slice ua ul uc] 79)).alloc (.cells #[.int .i64 0, .int .i64 0, .slice none 0 0] 79) = W1 at hb hH hH1 ⊢
  have HSZ := Lib.hid (show W1.heap.size = w.heap.size + 2 by rw [← hW]; simp)
  clear hW
  obtain ⟨p0, p1, p2⟩ := cells3 hH.out
  have pl := lt_of hH.out
  obtain ⟨r0, r1, r2⟩ := cells3 hH1.out
  have rl := lt_of hH1.out
  have rz0 := fr_of hH1.out 0; have rz1 := fr_of hH1.out 1; have rz2 := fr_of hH1.out 2

  obtain ⟨hx0, hn, hc, hln, h1⟩ := HS.out.srcI
  have HN := Lib.hid hn
  have HC := Lib.hid (fun ad e j y hy => hb.out.cell (World.block_lt_of_cell? w _ (hc ad e j y hy)) |>.trans (hc ad e j y hy))
  have HLN := Lib.hid hln
  have H1 := Lib.hid h1
  clear hn hc hln h1 hx0
  obtain ⟨i0, hi, hz0, hz1, hz2⟩ := infoI_parts
  have nn1 : ¬ w.heap.size + 1 = w.heap.size := by omega
  have nn2 : ¬ w.heap.size = w.heap.size + 1 := by omega
  have HV0 := Lib.hid (show (World.drew (W1.alloc (.cells #[] 156))).ownsRow (w.heap.size + 2) 156 4 (.slice (some ⟨W1.heap.size, 0, none⟩) 0 0) 0 [] from by rw [← HSZ.out]; exact lit0T 156 4 W1)
  have HC0 := Lib.hid (show ∀ ad, ua = some ad → ∀ j y, (cellsI row)[j]? = some y → (World.drew (W1.alloc (.cells #[] 156))).cell? (ad.add j) = some y from fun ad e j y hy => World.cell_al (w := W1) _ (HC.out ad e j y hy))
  have JD := Lib.hid (show (World.drew (W1.alloc (.cells #[] 156))).heap[w.heap.size + 1]? = _ from al_keep hH1.out)
  have GD := Lib.hid (show (World.drew (W1.alloc (.cells #[] 156))).heap[w.heap.size]? = _ from al_keep hH.out)
  have HBD := Lib.hid (show Below w.heap.size w (World.drew (W1.alloc (.cells #[] 156))) from (hb.out.al _).drew)
  have HSD := Lib.hid (show (World.drew (W1.alloc (.cells #[] 156))).heap.size = w.heap.size + 3 by show (W1.alloc _).heap.size = _; simp [HSZ.out])
  go_region_held3 (fun w' => w'.cell? ⟨w.heap.size, 0, none⟩ = some (.int .i64 x0) ∧ w'.cell? ⟨w.heap.size, 1, none⟩ = some (.int .i64 x1) ∧ w'.cell? ⟨w.heap.size, 2, none⟩ = some (.slice ua ul uc)) (go_keep) ((refine step_app_src Try.underlying77 hi hz0 hz1 hz2 rfl (by decide) rfl (.tmp 7) (.tmp 9) (by rfl) (by rfl) (lo := w.heap.size + 2) (v := .slice (some ⟨W1.heap.size, 0, none⟩) 0 0) (n := 0) (L := []) (by rfl) (by rfl) HV0.out HN.out HC0.out HLN.out H1.out (by have := HLB.out; unfold maxLen; omega) (by have := HLB.out; omega) (by rw [HSD.out]; omega) ?_; intro v' W5 hown hgrow hat; have J5 := Lib.hid ((hgrow.block (w.heap.size + 1) (lt_of JD.out) (by have := HSZ.out; simp [Value.ownBlock]; omega)).trans JD.out); have G5 := Lib.hid ((hgrow.block w.heap.size (lt_of GD.out) (by have := HSZ.out; simp [Value.ownBlock]; omega)).trans GD.out); obtain ⟨e0, e1, e2⟩ := cells3 G5.out; have el := lt_of G5.out; have HOW := Lib.hid (show OwnI (w.heap.size + 2) W5 v' row by (have q := hown; rw [List.nil_append, Nat.zero_add, HU.out] at q; exact q)); have HB5 := Lib.hid (HBD.out.grown hgrow (by rw [HSD.out]; omega) (fun q e => by have := HSZ.out; simp [Value.ownBlock] at e; omega)); clear hown hgrow hat; obtain ⟨q0, q1, q2⟩ := cells3 J5.out; have ql := lt_of J5.out; have qz0 := fr_of J5.out 0; have qz1 := fr_of J5.out 1; have qz2 := fr_of J5.out 2; obtain ⟨xa, xc, rfl⟩ := HOW.out.shape))
  all_goals
    go_wp2_with fail
    refine bodyPost_ret (v := .agg #[.int .i64 x0, .int .i64 x1, .slice xa row.length xc]) (by simp [results, Try.results60, go_sem, q0, q1, q2]) rfl ⟨_, rfl, ?_, ?_⟩
    · exact ((((HOW.out.setB (a := ⟨w.heap.size + 1, 0, none⟩) (by show w.heap.size + 1 < w.heap.size + 2; omega) _).setB (a := ⟨w.heap.size + 1, 1, none⟩) (by show w.heap.size + 1 < w.heap.size + 2; omega) _).setB (a := ⟨w.heap.size + 1, 2, none⟩) (by show w.heap.size + 1 < w.heap.size + 2; omega) _)).mono (by omega)
    · exact (((HB5.out.setCell (p := ⟨w.heap.size + 1, 0, none⟩) (by show w.heap.size ≤ w.heap.size + 1; omega) _).setCell (p := ⟨w.heap.size + 1, 1, none⟩) (by show w.heap.size ≤ w.heap.size + 1; omega) _).setCell (p := ⟨w.heap.size + 1, 2, none⟩) (by show w.heap.size ≤ w.heap.size + 1; omega) _)


set_option maxRecDepth 100000 in
set_option maxHeartbeats 8000000 in
theorem sl3link_any (x0 x1 x2 x3 : Int) (u : Value) (row : List Int) (w : World) (h : Sl w u row) (hl : row.length ≤ 1100000) :
    Calls Try.prog 61 #[.agg #[.int .i64 x0, .int .i64 x1, .int .i64 x2, .int .i64 x3, u]] w fun e w' => ∃ c, e = .returned (.agg #[.int .i64 x0, .int .i64 x1, .int .i64 x2, .int .i64 x3, c]) ∧ Own w.heap.size w' c row ∧ Below w.heap.size w w' := by
  obtain ⟨ua, uc, rfl⟩ := h.shape
  have HS := Lib.hid h
  obtain ⟨ul, hul⟩ : ∃ z, z = row.length := ⟨_, rfl⟩
  rw [← hul] at HS hl ⊢
  have HU := Lib.hid hul
  have HLB := Lib.hid hl
  clear h hul hl
  have hb := Lib.hid (((Below.refl w.heap.size w).al (.cells #[.int .i64 x0, .int .i64 x1, .int .i64 x2, .int .i64 x3, .slice ua ul uc] 68)).al (.cells #[.int .i64 0, .int .i64 0, .int .i64 0, .int .i64 0, .slice none 0 0] 68))
  have hH := Lib.hid (hp21 w (.cells #[.int .i64 x0, .int .i64 x1, .int .i64 x2, .int .i64 x3, .slice ua ul uc] 68) (.cells #[.int .i64 0, .int .i64 0, .int .i64 0, .int .i64 0, .slice none 0 0] 68))
  have hH1 := Lib.hid (hp2 w (.cells #[.int .i64 x0, .int .i64 x1, .int .i64 x2, .int .i64 x3, .slice ua ul uc] 68) (.cells #[.int .i64 0, .int .i64 0, .int .i64 0, .int .i64 0, .slice none 0 0] 68))
  go_enter Try.func61, Try.ntmps61
  go_upto_region 1 with fail
  generalize hW : (w.alloc (.cells #[.int .i64 x0, .int .i64 x1, .int .i64 x2, .int .i64 x3, .slice ua ul uc] 68)).alloc (.cells #[.int .i64 0, .int .i64 0, .int .i64 0, .int .i64 0, .slice none 0 0] 68) = W1 at hb hH hH1 ⊢
  have HSZ := Lib.hid (show W1.heap.size = w.heap.size + 2 by rw [← hW]; simp)
  clear hW
  obtain ⟨p0, p1, p2, p3, p4⟩ := cells5 hH.out
  have pl := lt_of hH.out
  obtain ⟨r0, r1, r2, r3, r4⟩ := cells5 hH1.out
  have rl := lt_of hH1.out
  have rz0 := fr_of hH1.out 0; have rz1 := fr_of hH1.out 1; have rz2 := fr_of hH1.out 2; have rz3 := fr_of hH1.out 3; have rz4 := fr_of hH1.out 4

  have nn1 : ¬ w.heap.size + 1 = w.heap.size := by omega
  have nn2 : ¬ w.heap.size = w.heap.size + 1 := by omega
  have CC := Lib.hid (fun (W : World) (hw : Below W1.heap.size W1 W) => l1copy_any (.slice ua ul uc) row W (HS.out.below (hb.out.trans (hw.mono hb.out.size))) (by have := HU.out; have := HLB.out; omega))
  go_region_held3 (fun w' => w'.cell? ⟨w.heap.size, 0, none⟩ = some (.int .i64 x0) ∧ w'.cell? ⟨w.heap.size, 1, none⟩ = some (.int .i64 x1) ∧ w'.cell? ⟨w.heap.size, 2, none⟩ = some (.int .i64 x2) ∧ w'.cell? ⟨w.heap.size, 3, none⟩ = some (.int .i64 x3) ∧ w'.cell? ⟨w.heap.size, 4, none⟩ = some (.slice ua ul uc)) (go_keep) (first | (go_at_call 124; refine (CC.out _ (by first | with_reducible exact Below.refl _ _ | with_reducible exact (Below.refl _ _).drew)).mono ?_; rintro e W5 ⟨c5, rfl, o5, hb5⟩; have hs5 := (show Below W1.heap.size W1 W5 by first | with_reducible exact hb5 | with_reducible exact cr_d hb5); have HB5 := Lib.hid (hb.out.trans (hs5.mono hb.out.size)); have O5 := Lib.hid (Own.mono (lo' := w.heap.size + 2) o5 (by first | exact Nat.le_of_eq HSZ.out.symm | (have := HSZ.out; simp; omega))); have G5 := Lib.hid (blk_in hH.out hs5); have J5 := Lib.hid (blk_in hH1.out hs5); obtain ⟨e0, e1, e2, e3, e4⟩ := cells5 G5.out; have el := lt_of G5.out; obtain ⟨q0, q1, q2, q3, q4⟩ := cells5 J5.out; have ql := lt_of J5.out; have qz0 := fr_of J5.out 0; have qz1 := fr_of J5.out 1; have qz2 := fr_of J5.out 2; have qz3 := fr_of J5.out 3; have qz4 := fr_of J5.out 4; obtain ⟨xa, xc, rfl⟩ := O5.out.shape; clear o5 hb5 hs5))
  all_goals
    go_wp2_with fail
    refine bodyPost_ret (v := .agg #[.int .i64 x0, .int .i64 x1, .int .i64 x2, .int .i64 x3, .slice xa row.length xc]) (by simp [results, Try.results61, go_sem, q0, q1, q2, q3, q4]) rfl ⟨_, rfl, ?_, ?_⟩
    · exact ((((((O5.out.setB (a := ⟨w.heap.size + 1, 0, none⟩) (by show w.heap.size + 1 < w.heap.size + 2; omega) _).setB (a := ⟨w.heap.size + 1, 1, none⟩) (by show w.heap.size + 1 < w.heap.size + 2; omega) _).setB (a := ⟨w.heap.size + 1, 2, none⟩) (by show w.heap.size + 1 < w.heap.size + 2; omega) _).setB (a := ⟨w.heap.size + 1, 3, none⟩) (by show w.heap.size + 1 < w.heap.size + 2; omega) _).setB (a := ⟨w.heap.size + 1, 4, none⟩) (by show w.heap.size + 1 < w.heap.size + 2; omega) _)).mono (by omega)
    · exact (((((HB5.out.setCell (p := ⟨w.heap.size + 1, 0, none⟩) (by show w.heap.size ≤ w.heap.size + 1; omega) _).setCell (p := ⟨w.heap.size + 1, 1, none⟩) (by show w.heap.size ≤ w.heap.size + 1; omega) _).setCell (p := ⟨w.heap.size + 1, 2, none⟩) (by show w.heap.size ≤ w.heap.size + 1; omega) _).setCell (p := ⟨w.heap.size + 1, 3, none⟩) (by show w.heap.size ≤ w.heap.size + 1; omega) _).setCell (p := ⟨w.heap.size + 1, 4, none⟩) (by show w.heap.size ≤ w.heap.size + 1; omega) _)


set_option maxRecDepth 100000 in
set_option maxHeartbeats 8000000 in
theorem icprog_any (x0 x1 : Int) (u : Value) (row : List Ins) (w : World) (h : SlI w u row) (hl : row.length ≤ 1100000) :
    Calls Try.prog 118 #[.agg #[.int .i64 x0, .int .i64 x1, u]] w fun e w' => ∃ c, e = .returned (.agg #[.int .i64 x0, .int .i64 x1, c]) ∧ OwnI w.heap.size w' c row ∧ Below w.heap.size w w' := by
  obtain ⟨ua, uc, rfl⟩ := h.shape
  have HS := Lib.hid h
  obtain ⟨ul, hul⟩ : ∃ z, z = row.length := ⟨_, rfl⟩
  rw [← hul] at HS hl ⊢
  have HU := Lib.hid hul
  have HLB := Lib.hid hl
  clear h hul hl
  have hb := Lib.hid (((Below.refl w.heap.size w).al (.cells #[.int .i64 x0, .int .i64 x1, .slice ua ul uc] 79)).al (.cells #[.int .i64 0, .int .i64 0, .slice none 0 0] 79))
  have hH := Lib.hid (hp21 w (.cells #[.int .i64 x0, .int .i64 x1, .slice ua ul uc] 79) (.cells #[.int .i64 0, .int .i64 0, .slice none 0 0] 79))
  have hH1 := Lib.hid (hp2 w (.cells #[.int .i64 x0, .int .i64 x1, .slice ua ul uc] 79) (.cells #[.int .i64 0, .int .i64 0, .slice none 0 0] 79))
  go_enter Try.func118, Try.ntmps118
  go_upto_region 1 with fail
  generalize hW : (w.alloc (.cells #[.int .i64 x0, .int .i64 x1, .slice ua ul uc] 79)).alloc (.cells #[.int .i64 0, .int .i64 0, .slice none 0 0] 79) = W1 at hb hH hH1 ⊢
  have HSZ := Lib.hid (show W1.heap.size = w.heap.size + 2 by rw [← hW]; simp)
  clear hW
  obtain ⟨p0, p1, p2⟩ := cells3 hH.out
  have pl := lt_of hH.out
  obtain ⟨r0, r1, r2⟩ := cells3 hH1.out
  have rl := lt_of hH1.out
  have rz0 := fr_of hH1.out 0; have rz1 := fr_of hH1.out 1; have rz2 := fr_of hH1.out 2

  have nn1 : ¬ w.heap.size + 1 = w.heap.size := by omega
  have nn2 : ¬ w.heap.size = w.heap.size + 1 := by omega
  have CC := Lib.hid (fun (W : World) (hw : Below W1.heap.size W1 W) => icloneI_any (.slice ua ul uc) row W (HS.out.below (hb.out.trans (hw.mono hb.out.size))) (by have := HU.out; have := HLB.out; omega))
  go_region_held3 (fun w' => w'.cell? ⟨w.heap.size, 0, none⟩ = some (.int .i64 x0) ∧ w'.cell? ⟨w.heap.size, 1, none⟩ = some (.int .i64 x1) ∧ w'.cell? ⟨w.heap.size, 2, none⟩ = some (.slice ua ul uc)) (go_keep) (first | (go_at_call 157; refine (CC.out _ (by first | with_reducible exact Below.refl _ _ | with_reducible exact (Below.refl _ _).drew)).mono ?_; rintro e W5 ⟨c5, rfl, o5, hb5⟩; have hs5 := (show Below W1.heap.size W1 W5 by first | with_reducible exact hb5 | with_reducible exact cr_d hb5); have HB5 := Lib.hid (hb.out.trans (hs5.mono hb.out.size)); have O5 := Lib.hid (OwnI.mono (lo' := w.heap.size + 2) o5 (by first | exact Nat.le_of_eq HSZ.out.symm | (have := HSZ.out; simp; omega))); have G5 := Lib.hid (blk_in hH.out hs5); have J5 := Lib.hid (blk_in hH1.out hs5); obtain ⟨e0, e1, e2⟩ := cells3 G5.out; have el := lt_of G5.out; obtain ⟨q0, q1, q2⟩ := cells3 J5.out; have ql := lt_of J5.out; have qz0 := fr_of J5.out 0; have qz1 := fr_of J5.out 1; have qz2 := fr_of J5.out 2; obtain ⟨xa, xc, rfl⟩ := O5.out.shape; clear o5 hb5 hs5))
  all_goals
    go_wp2_with fail
    refine bodyPost_ret (v := .agg #[.int .i64 x0, .int .i64 x1, .slice xa row.length xc]) (by simp [results, Try.results118, go_sem, q0, q1, q2]) rfl ⟨_, rfl, ?_, ?_⟩
    · exact ((((O5.out.setB (a := ⟨w.heap.size + 1, 0, none⟩) (by show w.heap.size + 1 < w.heap.size + 2; omega) _).setB (a := ⟨w.heap.size + 1, 1, none⟩) (by show w.heap.size + 1 < w.heap.size + 2; omega) _).setB (a := ⟨w.heap.size + 1, 2, none⟩) (by show w.heap.size + 1 < w.heap.size + 2; omega) _)).mono (by omega)
    · exact (((HB5.out.setCell (p := ⟨w.heap.size + 1, 0, none⟩) (by show w.heap.size ≤ w.heap.size + 1; omega) _).setCell (p := ⟨w.heap.size + 1, 1, none⟩) (by show w.heap.size ≤ w.heap.size + 1; omega) _).setCell (p := ⟨w.heap.size + 1, 2, none⟩) (by show w.heap.size ≤ w.heap.size + 1; omega) _)

end Go.Proofs.Ytkeoefbkeommhaa
