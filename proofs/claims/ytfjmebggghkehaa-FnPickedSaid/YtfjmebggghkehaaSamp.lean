/-
  The sample programs, by name, and what sampleCode leaves. No statement of the seat is proved here.
-/
import Derived.Test.YtfjmebggghkehaaBoxes
import Derived.Maps.AppendAt
import Derived.Laws.Strings
import Derived.Lib.SliceRun
namespace Go.Proofs.Ytfjmebggghkehaa
open Go.RowKit

def nm0 : List UInt8 := [116, 104, 114, 111, 117, 103, 104]
def sc0 : List Ins := [⟨1, 0, 0, 0⟩, ⟨2, 0, 0, 0⟩]
def nm1 : List UInt8 := [99, 111, 112, 121]
def sc1 : List Ins := [⟨1, 0, 0, 0⟩, ⟨2, 0, 0, 0⟩, ⟨2, 0, 1, 0⟩]
def nm2 : List UInt8 := [115, 105, 110, 107]
def sc2 : List Ins := [⟨1, 0, 0, 0⟩]
def nm3 : List UInt8 := [97, 100, 100]
def sc3 : List Ins := [⟨1, 0, 0, 0⟩, ⟨1, 1, 1, 0⟩, ⟨4, 0, 0, 1⟩, ⟨2, 0, 0, 0⟩]
def nm4 : List UInt8 := [97, 108, 116, 101, 114, 110, 97, 116, 101]
def sc4 : List Ins := [⟨1, 0, 0, 0⟩, ⟨2, 0, 0, 0⟩, ⟨1, 0, 1, 0⟩, ⟨2, 0, 0, 0⟩]
def nm5 : List UInt8 := [115, 112, 108, 105, 116]
def sc5 : List Ins := [⟨1, 0, 0, 0⟩, ⟨2, 0, 0, 0⟩, ⟨1, 0, 0, 0⟩, ⟨2, 0, 1, 0⟩]
def nm6 : List UInt8 := [115, 117, 109, 115]
def sc6 : List Ins := [⟨1, 1, 0, 0⟩, ⟨4, 0, 0, 1⟩, ⟨2, 0, 0, 0⟩]
def nm7 : List UInt8 := [115, 116, 101, 112, 115]
def sc7 : List Ins := [⟨1, 1, 0, 0⟩, ⟨5, 2, 1, 0⟩, ⟨2, 2, 0, 0⟩, ⟨3, 3, 0, 0⟩, ⟨4, 0, 1, 3⟩]
def nm8 : List UInt8 := [116, 119, 105, 99, 101]
def sc8 : List Ins := [⟨1, 0, 0, 0⟩, ⟨2, 0, 0, 0⟩, ⟨2, 0, 0, 0⟩]
def nm9 : List UInt8 := [99, 111, 117, 110, 116]
def sc9 : List Ins := [⟨2, 0, 0, 0⟩, ⟨3, 1, 1, 0⟩, ⟨4, 0, 0, 1⟩]
def nm10 : List UInt8 := [112, 105, 99, 107]
def sc10 : List Ins := [⟨1, 0, 0, 0⟩, ⟨9, 0, 4, 0⟩, ⟨1, 1, 2, 0⟩, ⟨8, 0, 5, 0⟩, ⟨1, 1, 1, 0⟩, ⟨2, 1, 0, 0⟩]
def jump0 : Ins := ⟨8, 0, 0, 0⟩
def sampleR (l : List UInt8) : Prg :=
  if l = nm0 then ⟨1, 1, sc0 ++ [jump0]⟩ else
  if l = nm1 then ⟨1, 2, sc1 ++ [jump0]⟩ else
  if l = nm2 then ⟨1, 0, sc2 ++ [jump0]⟩ else
  if l = nm3 then ⟨2, 1, sc3 ++ [jump0]⟩ else
  if l = nm4 then ⟨2, 1, sc4 ++ [jump0]⟩ else
  if l = nm5 then ⟨1, 2, sc5 ++ [jump0]⟩ else
  if l = nm6 then ⟨1, 1, sc6 ++ [jump0]⟩ else
  if l = nm7 then ⟨1, 1, sc7 ++ [jump0]⟩ else
  if l = nm8 then ⟨1, 1, sc8 ++ [jump0]⟩ else
  if l = nm9 then ⟨0, 1, sc9 ++ [jump0]⟩ else
  if l = nm10 then ⟨3, 1, sc10 ++ [jump0]⟩ else
  ⟨0, 0, []⟩
def sampleProgramR0 (s : ByteArray) : Prg := sampleR s.data.toList
theorem sampleR_0 : sampleR nm0 = ⟨1, 1, sc0 ++ [jump0]⟩ := by
  unfold sampleR
  rw [if_pos rfl]
theorem sampleR_1 : sampleR nm1 = ⟨1, 2, sc1 ++ [jump0]⟩ := by
  unfold sampleR
  rw [if_neg (by decide)]
  rw [if_pos rfl]
theorem sampleR_2 : sampleR nm2 = ⟨1, 0, sc2 ++ [jump0]⟩ := by
  unfold sampleR
  rw [if_neg (by decide)]
  rw [if_neg (by decide)]
  rw [if_pos rfl]
theorem sampleR_3 : sampleR nm3 = ⟨2, 1, sc3 ++ [jump0]⟩ := by
  unfold sampleR
  rw [if_neg (by decide)]
  rw [if_neg (by decide)]
  rw [if_neg (by decide)]
  rw [if_pos rfl]
theorem sampleR_4 : sampleR nm4 = ⟨2, 1, sc4 ++ [jump0]⟩ := by
  unfold sampleR
  rw [if_neg (by decide)]
  rw [if_neg (by decide)]
  rw [if_neg (by decide)]
  rw [if_neg (by decide)]
  rw [if_pos rfl]
theorem sampleR_5 : sampleR nm5 = ⟨1, 2, sc5 ++ [jump0]⟩ := by
  unfold sampleR
  rw [if_neg (by decide)]
  rw [if_neg (by decide)]
  rw [if_neg (by decide)]
  rw [if_neg (by decide)]
  rw [if_neg (by decide)]
  rw [if_pos rfl]
theorem sampleR_6 : sampleR nm6 = ⟨1, 1, sc6 ++ [jump0]⟩ := by
  unfold sampleR
  rw [if_neg (by decide)]
  rw [if_neg (by decide)]
  rw [if_neg (by decide)]
  rw [if_neg (by decide)]
  rw [if_neg (by decide)]
  rw [if_neg (by decide)]
  rw [if_pos rfl]
theorem sampleR_7 : sampleR nm7 = ⟨1, 1, sc7 ++ [jump0]⟩ := by
  unfold sampleR
  rw [if_neg (by decide)]
  rw [if_neg (by decide)]
  rw [if_neg (by decide)]
  rw [if_neg (by decide)]
  rw [if_neg (by decide)]
  rw [if_neg (by decide)]
  rw [if_neg (by decide)]
  rw [if_pos rfl]
theorem sampleR_8 : sampleR nm8 = ⟨1, 1, sc8 ++ [jump0]⟩ := by
  unfold sampleR
  rw [if_neg (by decide)]
  rw [if_neg (by decide)]
  rw [if_neg (by decide)]
  rw [if_neg (by decide)]
  rw [if_neg (by decide)]
  rw [if_neg (by decide)]
  rw [if_neg (by decide)]
  rw [if_neg (by decide)]
  rw [if_pos rfl]
theorem sampleR_9 : sampleR nm9 = ⟨0, 1, sc9 ++ [jump0]⟩ := by
  unfold sampleR
  rw [if_neg (by decide)]
  rw [if_neg (by decide)]
  rw [if_neg (by decide)]
  rw [if_neg (by decide)]
  rw [if_neg (by decide)]
  rw [if_neg (by decide)]
  rw [if_neg (by decide)]
  rw [if_neg (by decide)]
  rw [if_neg (by decide)]
  rw [if_pos rfl]
theorem sampleR_10 : sampleR nm10 = ⟨3, 1, sc10 ++ [jump0]⟩ := by
  unfold sampleR
  rw [if_neg (by decide)]
  rw [if_neg (by decide)]
  rw [if_neg (by decide)]
  rw [if_neg (by decide)]
  rw [if_neg (by decide)]
  rw [if_neg (by decide)]
  rw [if_neg (by decide)]
  rw [if_neg (by decide)]
  rw [if_neg (by decide)]
  rw [if_neg (by decide)]
  rw [if_pos rfl]
theorem sampleR_no {l : List UInt8} (h0 : l ≠ nm0) (h1 : l ≠ nm1) (h2 : l ≠ nm2) (h3 : l ≠ nm3) (h4 : l ≠ nm4) (h5 : l ≠ nm5) (h6 : l ≠ nm6) (h7 : l ≠ nm7) (h8 : l ≠ nm8) (h9 : l ≠ nm9) (h10 : l ≠ nm10) : sampleR l = ⟨0, 0, []⟩ := by
  unfold sampleR
  rw [if_neg h0, if_neg h1, if_neg h2, if_neg h3, if_neg h4, if_neg h5, if_neg h6, if_neg h7, if_neg h8, if_neg h9, if_neg h10]

theorem OwnI.nil (lo : Nat) (w : World) : OwnI lo w (.slice none 0 0) [] := World.ownsRow_nil _ _ _ _
theorem own_litI (W : World) (g n : Nat) (cs : Array Value) (code : List Ins) (hg : g = W.heap.size) (hc : cs.toList = cellsI code) (hn : n = code.length) (hm : n ≤ maxLen) : OwnI g (W.alloc (.cells cs 109)) (.slice (some ⟨g, 0, none⟩) n n) code := by
  subst hg
  subst hn
  have hz : cs.size = code.length * 4 := by rw [← Array.length_toList, hc, cellsI_len]
  exact ⟨cellsI_len code, .inr ⟨W.heap.size, code.length, cs, rfl, Nat.le_refl _, heap_alloc_new W _, Nat.le_refl _, hm, hz, by rw [List.take_of_length_le (by rw [Array.length_toList, hz]; exact Nat.le_refl _), hc]⟩⟩

set_option maxRecDepth 100000 in
set_option maxHeartbeats 8000000 in
theorem isc_any (s : ByteArray) (w : World) :
    Calls Try.prog 76 #[.string s] w fun e w' => ∃ (i o : Int) (v : Value), e = .returned (.tuple #[.int .i64 i, .int .i64 o, v]) ∧ Below w.heap.size w w' ∧
      ((∃ code, OwnI w.heap.size w' v code ∧ sampleProgramR0 s = ⟨i, o, code ++ [jump0]⟩ ∧ code.length ≤ 23 ∧ v = .slice (some ⟨w.heap.size, 0, none⟩) code.length code.length) ∨ (v = .slice none 0 0 ∧ sampleProgramR0 s = ⟨0, 0, []⟩)) := by
  have hb := Below.refl w.heap.size w
  unfold sampleProgramR0
  have hl := ByteArray.toList_eq s
  obtain ⟨l, hll⟩ : ∃ l, l = s.data.toList := ⟨_, rfl⟩
  rw [← hll] at hl ⊢
  by_cases h0 : l = nm0
  · have d0 : (s.toList == [116, 104, 114, 111, 117, 103, 104]) = true := by rw [hl, h0]; rfl
    rw [h0, sampleR_0]
    clear hl hll h0
    go_enter Try.func76, Try.ntmps76
    go_wp2_with fail
    go_ret3
    exact ⟨_, _, _, rfl, hb.al _, .inl ⟨sc0, own_litI _ _ _ _ _ rfl rfl rfl (by unfold maxLen; decide), rfl, by decide, rfl⟩⟩
  · have d0 : (s.toList == [116, 104, 114, 111, 117, 103, 104]) = false := by rw [hl, beq_eq_false_iff_ne]; exact h0
    by_cases h1 : l = nm1
    · have d1 : (s.toList == [99, 111, 112, 121]) = true := by rw [hl, h1]; rfl
      rw [h1, sampleR_1]
      clear hl hll h1
      go_enter Try.func76, Try.ntmps76
      go_wp2_with fail
      go_ret3
      exact ⟨_, _, _, rfl, hb.al _, .inl ⟨sc1, own_litI _ _ _ _ _ rfl rfl rfl (by unfold maxLen; decide), rfl, by decide, rfl⟩⟩
    · have d1 : (s.toList == [99, 111, 112, 121]) = false := by rw [hl, beq_eq_false_iff_ne]; exact h1
      by_cases h2 : l = nm2
      · have d2 : (s.toList == [115, 105, 110, 107]) = true := by rw [hl, h2]; rfl
        rw [h2, sampleR_2]
        clear hl hll h2
        go_enter Try.func76, Try.ntmps76
        go_wp2_with fail
        go_ret3
        exact ⟨_, _, _, rfl, hb.al _, .inl ⟨sc2, own_litI _ _ _ _ _ rfl rfl rfl (by unfold maxLen; decide), rfl, by decide, rfl⟩⟩
      · have d2 : (s.toList == [115, 105, 110, 107]) = false := by rw [hl, beq_eq_false_iff_ne]; exact h2
        by_cases h3 : l = nm3
        · have d3 : (s.toList == [97, 100, 100]) = true := by rw [hl, h3]; rfl
          rw [h3, sampleR_3]
          clear hl hll h3
          go_enter Try.func76, Try.ntmps76
          go_wp2_with fail
          go_ret3
          exact ⟨_, _, _, rfl, hb.al _, .inl ⟨sc3, own_litI _ _ _ _ _ rfl rfl rfl (by unfold maxLen; decide), rfl, by decide, rfl⟩⟩
        · have d3 : (s.toList == [97, 100, 100]) = false := by rw [hl, beq_eq_false_iff_ne]; exact h3
          by_cases h4 : l = nm4
          · have d4 : (s.toList == [97, 108, 116, 101, 114, 110, 97, 116, 101]) = true := by rw [hl, h4]; rfl
            rw [h4, sampleR_4]
            clear hl hll h4
            go_enter Try.func76, Try.ntmps76
            go_wp2_with fail
            go_ret3
            exact ⟨_, _, _, rfl, hb.al _, .inl ⟨sc4, own_litI _ _ _ _ _ rfl rfl rfl (by unfold maxLen; decide), rfl, by decide, rfl⟩⟩
          · have d4 : (s.toList == [97, 108, 116, 101, 114, 110, 97, 116, 101]) = false := by rw [hl, beq_eq_false_iff_ne]; exact h4
            by_cases h5 : l = nm5
            · have d5 : (s.toList == [115, 112, 108, 105, 116]) = true := by rw [hl, h5]; rfl
              rw [h5, sampleR_5]
              clear hl hll h5
              go_enter Try.func76, Try.ntmps76
              go_wp2_with fail
              go_ret3
              exact ⟨_, _, _, rfl, hb.al _, .inl ⟨sc5, own_litI _ _ _ _ _ rfl rfl rfl (by unfold maxLen; decide), rfl, by decide, rfl⟩⟩
            · have d5 : (s.toList == [115, 112, 108, 105, 116]) = false := by rw [hl, beq_eq_false_iff_ne]; exact h5
              by_cases h6 : l = nm6
              · have d6 : (s.toList == [115, 117, 109, 115]) = true := by rw [hl, h6]; rfl
                rw [h6, sampleR_6]
                clear hl hll h6
                go_enter Try.func76, Try.ntmps76
                go_wp2_with fail
                go_ret3
                exact ⟨_, _, _, rfl, hb.al _, .inl ⟨sc6, own_litI _ _ _ _ _ rfl rfl rfl (by unfold maxLen; decide), rfl, by decide, rfl⟩⟩
              · have d6 : (s.toList == [115, 117, 109, 115]) = false := by rw [hl, beq_eq_false_iff_ne]; exact h6
                by_cases h7 : l = nm7
                · have d7 : (s.toList == [115, 116, 101, 112, 115]) = true := by rw [hl, h7]; rfl
                  rw [h7, sampleR_7]
                  clear hl hll h7
                  go_enter Try.func76, Try.ntmps76
                  go_wp2_with fail
                  go_ret3
                  exact ⟨_, _, _, rfl, hb.al _, .inl ⟨sc7, own_litI _ _ _ _ _ rfl rfl rfl (by unfold maxLen; decide), rfl, by decide, rfl⟩⟩
                · have d7 : (s.toList == [115, 116, 101, 112, 115]) = false := by rw [hl, beq_eq_false_iff_ne]; exact h7
                  by_cases h8 : l = nm8
                  · have d8 : (s.toList == [116, 119, 105, 99, 101]) = true := by rw [hl, h8]; rfl
                    rw [h8, sampleR_8]
                    clear hl hll h8
                    go_enter Try.func76, Try.ntmps76
                    go_wp2_with fail
                    go_ret3
                    exact ⟨_, _, _, rfl, hb.al _, .inl ⟨sc8, own_litI _ _ _ _ _ rfl rfl rfl (by unfold maxLen; decide), rfl, by decide, rfl⟩⟩
                  · have d8 : (s.toList == [116, 119, 105, 99, 101]) = false := by rw [hl, beq_eq_false_iff_ne]; exact h8
                    by_cases h9 : l = nm9
                    · have d9 : (s.toList == [99, 111, 117, 110, 116]) = true := by rw [hl, h9]; rfl
                      rw [h9, sampleR_9]
                      clear hl hll h9
                      go_enter Try.func76, Try.ntmps76
                      go_wp2_with fail
                      go_ret3
                      exact ⟨_, _, _, rfl, hb.al _, .inl ⟨sc9, own_litI _ _ _ _ _ rfl rfl rfl (by unfold maxLen; decide), rfl, by decide, rfl⟩⟩
                    · have d9 : (s.toList == [99, 111, 117, 110, 116]) = false := by rw [hl, beq_eq_false_iff_ne]; exact h9
                      by_cases h10 : l = nm10
                      · have d10 : (s.toList == [112, 105, 99, 107]) = true := by rw [hl, h10]; rfl
                        rw [h10, sampleR_10]
                        clear hl hll h10
                        go_enter Try.func76, Try.ntmps76
                        go_wp2_with fail
                        go_ret3
                        exact ⟨_, _, _, rfl, hb.al _, .inl ⟨sc10, own_litI _ _ _ _ _ rfl rfl rfl (by unfold maxLen; decide), rfl, by decide, rfl⟩⟩
                      · have d10 : (s.toList == [112, 105, 99, 107]) = false := by rw [hl, beq_eq_false_iff_ne]; exact h10
                        rw [sampleR_no h0 h1 h2 h3 h4 h5 h6 h7 h8 h9 h10]
                        clear hl hll h0 h1 h2 h3 h4 h5 h6 h7 h8 h9 h10
                        go_enter Try.func76, Try.ntmps76
                        go_wp2_with fail
                        go_ret3
                        exact ⟨_, _, _, rfl, hb, .inr ⟨rfl, by first | rfl | trivial⟩⟩

theorem lit_jump (w : World) : ∀ j u, [Value.int .i64 8, .int .i64 0, .int .i64 0, .int .i64 0][j]? = some u → (w.alloc (.cells #[.int .i64 8, .int .i64 0, .int .i64 0, .int .i64 0] 109)).cell? ((⟨w.heap.size, 0, none⟩ : Addr).add j) = some u := by
  intro j u hj
  rw [Addr.add_lit, Nat.zero_add, cell_of (hp1 w _)]
  rw [← Array.getElem?_toList]; exact hj
theorem jump_one : ∀ u ∈ [Value.int .i64 8, .int .i64 0, .int .i64 0, .int .i64 0], u.oneCell' = true := by
  intro u hu; simp at hu; rcases hu with rfl | rfl <;> rfl

set_option maxRecDepth 100000 in
set_option maxHeartbeats 8000000 in
theorem isample_any (s : ByteArray) (w : World) :
    Calls Try.prog 18 #[.string s] w fun e w' => ∃ v', e = .returned v' ∧ PrgO w.heap.size w' v' (sampleProgramR0 s) ∧ Below w.heap.size w w' := by
  have hb := Lib.hid ((Below.refl w.heap.size w).al (.cells #[.int .i64 0, .int .i64 0, .slice none 0 0] 31))
  have hH := Lib.hid (hp1 w (.cells #[.int .i64 0, .int .i64 0, .slice none 0 0] 31))
  obtain ⟨i0, hi, hz0, hz1, hz2⟩ := infoI_parts
  have kn := fun (W : World) (a : Option Addr) (n c : Nat) => Lib.run_eql_slice_nil (P := Try.prog) W 29 109 a n c 0 0 Try.underlying29
  go_enter Try.func18, Try.ntmps18
  go_wp2_with fail
  refine (isc_any s _).mono ?_
  rintro e w2 ⟨i, ou, v, rfl, hb2, hv⟩
  have B := blk_in hH.out hb2
  obtain ⟨c0, c1, c2⟩ := cells3 B
  have z0 := fr_of B 0
  have z1 := fr_of B 1
  have z2 := fr_of B 2
  have lB := lt_of B
  have HBk := Lib.hid B
  have HB2 := Lib.hid hb2
  clear B hb2
  rcases hv with ⟨code, ho, he, hlen, hv⟩ | ⟨rfl, he⟩
  · rw [show (w.alloc (.cells #[.int .i64 0, .int .i64 0, .slice none 0 0] 31)).heap.size = w.heap.size + 1 by simp] at hv ho
    subst hv
    have HE := Lib.hid he
    have HS := Lib.hid HB2.out.size
    have hs2 := HS.out
    simp at hs2
    have HO := Lib.hid ho
    clear ho he
    go_wp2_with (at_builtin; refine wpList_append_own_at _ rfl _ _ 29 rfl (w.heap.size + 1) 109 i0 (.agg #[.int .i64 0, .int .i64 0, .int .i64 0, .int .i64 0]) 4 32 Try.underlying29 hi hz0 hz1 hz2 rfl (by decide) _ _ _ rfl (World.ownsRow.alloc HO.out _) ⟨w2.heap.size, 0, none⟩ 1 1 [.int .i64 8, .int .i64 0, .int .i64 0, .int .i64 0] rfl rfl (lit_jump _) jump_one ?c3 ?c4 ?c5 ?_)
    case c3 => unfold maxLen; omega
    case c4 => omega
    case c5 => simp; omega
    intro v' w3 hown hgrow _ hat
    have O := Lib.hid (show OwnI (w.heap.size + 1) w3 v' (code ++ [jump0]) from by unfold OwnI; rw [List.length_append, cellsI_app]; exact hown)
    have hbx : ((w2.alloc (.cells #[.int .i64 8, .int .i64 0, .int .i64 0, .int .i64 0] 109)).heap)[w.heap.size]? = some (.cells #[.int .i64 0, .int .i64 0, .slice none 0 0] 31) := by rw [Below.heap_alloc _ _ _ lB]; exact HBk.out
    have B3 := (hgrow.block w.heap.size (by simp; omega) (fun e => by simp [Value.ownBlock] at e)).trans hbx
    obtain ⟨d0, d1, d2⟩ := cells3 B3
    have y0 := fr_of B3 0
    have y1 := fr_of B3 1
    have y2 := fr_of B3 2
    have HB3 := Lib.hid (((Below.refl (w.heap.size + 1) w2).alloc (by omega) _).grown hgrow (by simp; omega) (fun k e => by simp [Value.ownBlock] at e; omega))
    clear hown hgrow hat B3 hbx hi hz0 hz1 hz2 c0 c1 c2 z0 z1 z2
    obtain ⟨a', cc', rfl⟩ := O.out.shape
    go_wp2_with fail
    refine bodyPost_ret (v := .agg #[.int .i64 i, .int .i64 ou, .slice a' (code ++ [jump0]).length cc']) (by simp [results, Try.results18, go_sem, d0, d1, d2]) rfl ⟨_, rfl, ?_, ?_⟩
    · rw [HE.out]
      exact ⟨_, rfl, (((OwnI.setB O.out (by simp) _).setB (by simp) _).setB (by simp) _).mono (by omega)⟩
    · exact ((((hb.out.trans (HB2.out.mono (by simp))).trans (HB3.out.mono (by omega))).setCell (by simp) _).setCell (by simp) _).setCell (by simp) _
  · have HE := Lib.hid he
    clear he
    clear hi hz0 hz1 hz2
    go_wp2_with fail
    refine bodyPost_ret (v := .agg #[.int .i64 0, .int .i64 0, .slice none 0 0]) (by simp [results, Try.results18, go_sem, c0, c1, c2]) rfl ⟨_, rfl, ?_, ?_⟩
    · rw [HE.out]; exact ⟨_, rfl, OwnI.nil _ _⟩
    exact (((hb.out.trans (HB2.out.mono (by simp))).setCell (by simp) _).setCell (by simp) _).setCell (by simp) _


end Go.Proofs.Ytfjmebggghkehaa
