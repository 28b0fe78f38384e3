/-
  What a network that came in reads as, and the small functions on links. No statement of the seat is proved here.
-/
import Derived.Test.YtjphamgkigekkaaEnds
import Derived.Test.YtjphamgkigekkaaIsP
import Derived.Test.YtjphamgkigekkaaBoxes
namespace Go.Proofs.Ytjphamgkigekkaa
open Go.RowKit

/-- 'v' is a slice of programs that reads as 'ps'. -/
def SlP (w : World) (v : Value) (ps : List Prg) : Prop :=
  ∃ (a : Option Addr) (cap : Nat), v = .slice a ps.length cap ∧ ps.length ≤ cap ∧ cap ≤ maxLen ∧ (a = none → cap = 0) ∧
    (ps = [] ∨ ∃ b off, a = some ⟨b, off, none⟩ ∧ b < w.heap.size ∧ ∀ i p, ps[i]? = some p → ∃ c, w.cell? ⟨b, off + i * 3, none⟩ = some (.int .i64 p.ins) ∧
      w.cell? ⟨b, off + i * 3 + 1, none⟩ = some (.int .i64 p.outs) ∧ w.cell? ⟨b, off + i * 3 + 2, none⟩ = some c ∧ SlI w c p.code)
def wfL (l : Lnk) : Prop := wfE l.src ∧ wfE l.tgt
/-- 'v' is a slice of links that reads as 'ls'. -/
def SlL (w : World) (v : Value) (ls : List Lnk) : Prop :=
  ∃ (a : Option Addr) (cap : Nat), v = .slice a ls.length cap ∧ ls.length ≤ cap ∧ cap ≤ maxLen ∧ (a = none → cap = 0) ∧
    (ls = [] ∨ ∃ b off, a = some ⟨b, off, none⟩ ∧ b < w.heap.size ∧ ∀ i l, ls[i]? = some l → ∃ c, w.cell? ⟨b, off + i * 5, none⟩ = some (.int .i64 l.frm) ∧
      w.cell? ⟨b, off + i * 5 + 1, none⟩ = some (.int .i64 l.out) ∧ w.cell? ⟨b, off + i * 5 + 2, none⟩ = some (.int .i64 l.to) ∧ w.cell? ⟨b, off + i * 5 + 3, none⟩ = some (.int .i64 l.inn) ∧
      w.cell? ⟨b, off + i * 5 + 4, none⟩ = some c ∧ wfL l ∧ Sl w c l.tok)
def NetV (w : World) (v : Value) (n : Net) : Prop := ∃ c d, v = .agg #[c, d] ∧ SlP w c n.progs ∧ SlL w d n.links

theorem SlP.below {w w' : World} {v : Value} {xs : List Prg} (h : SlP w v xs) (hb : Below w.heap.size w w') : SlP w' v xs := by
  obtain ⟨a, cap, hv, h1, h2, h3, h4⟩ := h
  refine ⟨a, cap, hv, h1, h2, h3, ?_⟩
  rcases h4 with h4 | ⟨b, off, ha, hlt, hc⟩
  · exact .inl h4
  · refine .inr ⟨b, off, ha, Nat.lt_of_lt_of_le hlt hb.size, fun i x hi => ?_⟩
    obtain ⟨c, c0, c1, c2, c3⟩ := hc i x hi
    exact ⟨c, (hb.cell hlt).trans c0, (hb.cell hlt).trans c1, (hb.cell hlt).trans c2, c3.below hb⟩
theorem SlL.below {w w' : World} {v : Value} {xs : List Lnk} (h : SlL w v xs) (hb : Below w.heap.size w w') : SlL w' v xs := by
  obtain ⟨a, cap, hv, h1, h2, h3, h4⟩ := h
  refine ⟨a, cap, hv, h1, h2, h3, ?_⟩
  rcases h4 with h4 | ⟨b, off, ha, hlt, hc⟩
  · exact .inl h4
  · refine .inr ⟨b, off, ha, Nat.lt_of_lt_of_le hlt hb.size, fun i x hi => ?_⟩
    obtain ⟨c, c0, c1, c2, c3, c4, c5, c6⟩ := hc i x hi
    exact ⟨c, (hb.cell hlt).trans c0, (hb.cell hlt).trans c1, (hb.cell hlt).trans c2, (hb.cell hlt).trans c3, (hb.cell hlt).trans c4, c5, c6.below hb⟩
theorem NetV.below {w w' : World} {v : Value} {n : Net} (h : NetV w v n) (hb : Below w.heap.size w w') : NetV w' v n := by
  obtain ⟨c, d, h1, h2, h3⟩ := h; exact ⟨c, d, h1, h2.below hb, h3.below hb⟩
theorem SlI.shape {w : World} {v : Value} {xs : List Ins} (h : SlI w v xs) : ∃ a c, v = .slice a xs.length c := by
  obtain ⟨a, c, h, _⟩ := h; exact ⟨a, c, h⟩
theorem Sl.shape {w : World} {v : Value} {xs : List Int} (h : Sl w v xs) : ∃ a c, v = .slice a xs.length c := by
  obtain ⟨a, c, h, _⟩ := h; exact ⟨a, c, h⟩
theorem cells5 {w : World} {g T : Nat} {u0 u1 u2 u3 u4 : Value} (h : w.heap[g]? = some (.cells #[u0, u1, u2, u3, u4] T)) : w.cell? ⟨g, 0, none⟩ = some u0 ∧ w.cell? ⟨g, 1, none⟩ = some u1 ∧ w.cell? ⟨g, 2, none⟩ = some u2 ∧ w.cell? ⟨g, 3, none⟩ = some u3 ∧ w.cell? ⟨g, 4, none⟩ = some u4 := by
  have a := cell_of h 0; have b := cell_of h 1; have c := cell_of h 2; have d := cell_of h 3; have e := cell_of h 4
  simp at a b c d e; exact ⟨a, b, c, d, e⟩
theorem SlL.wf {w : World} {v : Value} {xs : List Lnk} (h : SlL w v xs) : ∀ l ∈ xs, wfL l := by
  intro l hl
  obtain ⟨_, _, _, _, _, _, h4⟩ := h
  rcases h4 with rfl | ⟨_, _, _, _, hc⟩
  · simp at hl
  · obtain ⟨i, hi, e⟩ := List.getElem_of_mem hl
    obtain ⟨_, _, _, _, _, _, h, _⟩ := hc i l (List.getElem?_eq_some_iff.2 ⟨hi, e⟩)
    exact h
theorem SlP.len {w : World} {v : Value} {xs : List Prg} (h : SlP w v xs) : xs.length ≤ 9223372036854775807 := by
  obtain ⟨_, _, _, h1, h2, _⟩ := h; unfold maxLen at h2; omega
theorem SlL.len {w : World} {v : Value} {xs : List Lnk} (h : SlL w v xs) : xs.length ≤ 9223372036854775807 := by
  obtain ⟨_, _, _, h1, h2, _⟩ := h; unfold maxLen at h2; omega
theorem SlP.shape {w : World} {v : Value} {xs : List Prg} (h : SlP w v xs) : ∃ a c, v = .slice a xs.length c := by
  obtain ⟨a, c, h, _⟩ := h; exact ⟨a, c, h⟩
theorem SlL.shape {w : World} {v : Value} {xs : List Lnk} (h : SlL w v xs) : ∃ a c, v = .slice a xs.length c := by
  obtain ⟨a, c, h, _⟩ := h; exact ⟨a, c, h⟩

set_option maxHeartbeats 800000 in
theorem isrc_any (a b c d : Int) (u : Value) (w : World) :
    Calls Try.prog 109 #[.agg #[.int .i64 a, .int .i64 b, .int .i64 c, .int .i64 d, u]] w fun e w' => e = .returned (.agg #[.int .i64 a, .int .i64 b]) ∧ Below w.heap.size w w' := by
  have hb := Lib.hid (Below.refl w.heap.size w)
  go_enter Try.func109, Try.ntmps109
  go_wp2_with fail
  refine bodyPost_ret (v := .agg #[.int .i64 a, .int .i64 b]) (by simp [results, Try.results109, go_sem]) rfl ⟨rfl, ?_⟩
  first | exact (hb.out.al _).al _ | exact ((((hb.out.al _).al _).setCell (by simp) _).setCell (by simp) _)
set_option maxHeartbeats 800000 in
theorem itgt_any (a b c d : Int) (u : Value) (w : World) :
    Calls Try.prog 107 #[.agg #[.int .i64 a, .int .i64 b, .int .i64 c, .int .i64 d, u]] w fun e w' => e = .returned (.agg #[.int .i64 c, .int .i64 d]) ∧ Below w.heap.size w w' := by
  have hb := Lib.hid (Below.refl w.heap.size w)
  go_enter Try.func107, Try.ntmps107
  go_wp2_with fail
  refine bodyPost_ret (v := .agg #[.int .i64 c, .int .i64 d]) (by simp [results, Try.results107, go_sem]) rfl ⟨rfl, ?_⟩
  first | exact (hb.out.al _).al _ | exact ((((hb.out.al _).al _).setCell (by simp) _).setCell (by simp) _)

set_option maxHeartbeats 800000 in
theorem iout_any (a b : Int) (w : World) :
    Calls Try.prog 145 #[.agg #[.int .i64 a, .int .i64 b]] w fun e w' => e = .returned (.bool (decide ((a, b) = outE))) ∧ Below w.heap.size w w' := by
  have hb := Lib.hid (Below.refl w.heap.size w)
  go_enter Try.func145, Try.ntmps145
  go_wp2_with fail
  all_goals
    go_ret
    refine ⟨ret_bool ?_, hb.out.al _⟩
    simp [outE] <;> omega

set_option maxHeartbeats 800000 in
theorem iinput_any (a b c d : Int) (u : Value) (w : World) :
    Calls Try.prog 115 #[.agg #[.int .i64 a, .int .i64 b, .int .i64 c, .int .i64 d, u]] w fun e w' => e = .returned (.bool (decide ((a, b) = outE))) ∧ Below w.heap.size w w' := by
  have hb := Lib.hid ((Below.refl w.heap.size w).al (.cells #[.int .i64 a, .int .i64 b, .int .i64 c, .int .i64 d, u] 82))
  go_enter Try.func115, Try.ntmps115
  go_wp2_with (first | (go_at_call 109; refine (isrc_any a b c d u _).mono ?_; rintro e w2 ⟨rfl, hb1⟩; have HB1 := Lib.hid hb1; clear hb1) | (go_at_call 145; refine (iout_any a b _).mono ?_; rintro e w3 ⟨rfl, hb3⟩; have HB3 := Lib.hid hb3; clear hb3))
  go_ret
  exact ⟨rfl, (hb.out.trans (HB1.out.mono (by simp))).trans (HB3.out.mono (by have := HB1.out.size; simp at this; omega))⟩
set_option maxHeartbeats 800000 in
theorem ioutput_any (a b c d : Int) (u : Value) (w : World) :
    Calls Try.prog 124 #[.agg #[.int .i64 a, .int .i64 b, .int .i64 c, .int .i64 d, u]] w fun e w' => e = .returned (.bool (decide ((c, d) = outE))) ∧ Below w.heap.size w w' := by
  have hb := Lib.hid ((Below.refl w.heap.size w).al (.cells #[.int .i64 a, .int .i64 b, .int .i64 c, .int .i64 d, u] 82))
  go_enter Try.func124, Try.ntmps124
  go_wp2_with (first | (go_at_call 107; refine (itgt_any a b c d u _).mono ?_; rintro e w2 ⟨rfl, hb1⟩; have HB1 := Lib.hid hb1; clear hb1) | (go_at_call 145; refine (iout_any c d _).mono ?_; rintro e w3 ⟨rfl, hb3⟩; have HB3 := Lib.hid hb3; clear hb3))
  go_ret
  exact ⟨rfl, (hb.out.trans (HB1.out.mono (by simp))).trans (HB3.out.mono (by have := HB1.out.size; simp at this; omega))⟩

set_option maxHeartbeats 800000 in
theorem iinsOf_any (a b : Int) (u : Value) (w : World) :
    Calls Try.prog 128 #[.agg #[.int .i64 a, .int .i64 b, u]] w fun e w' => e = .returned (.int .i64 a) ∧ Below w.heap.size w w' := by
  have hb := Lib.hid (Below.refl w.heap.size w)
  go_enter Try.func128, Try.ntmps128
  go_wp2_with fail
  go_ret
  exact ⟨rfl, hb.out.al _⟩
set_option maxHeartbeats 800000 in
theorem ioutsOf_any (a b : Int) (u : Value) (w : World) :
    Calls Try.prog 127 #[.agg #[.int .i64 a, .int .i64 b, u]] w fun e w' => e = .returned (.int .i64 b) ∧ Below w.heap.size w w' := by
  have hb := Lib.hid (Below.refl w.heap.size w)
  go_enter Try.func127, Try.ntmps127
  go_wp2_with fail
  go_ret
  exact ⟨rfl, hb.out.al _⟩
end Go.Proofs.Ytjphamgkigekkaa
