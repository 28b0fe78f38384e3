/-
  What the model's NewActor answers. No statement of the seat is proved here.
-/
import Derived.Test.YtmfagmfclehdbaaActs
namespace Go.Proofs.Ytmfagmfclehdbaa
open Go.RowKit

set_option maxRecDepth 100000 in
set_option maxHeartbeats 4000000 in
theorem snew_any (v : Value) (p : Prg) (w : World) (h : PrgV w v p) :
    Calls Try.prog 55 #[v] w fun e w' => ∃ v', e = .returned v' ∧ ActO w.heap.size w' v' (newActorR0 p) ∧ Below w.heap.size w w' := by
  obtain ⟨c, rfl, hc⟩ := h
  have HC := Lib.hid hc
  clear hc
  have hb := Lib.hid (((Below.refl w.heap.size w).al (.cells #[.int .i64 p.ins, .int .i64 p.outs, c] 65)).al (.cells #[.int .i64 0, .slice none 0 0] 74))
  have hH := Lib.hid (hp2 w (.cells #[.int .i64 p.ins, .int .i64 p.outs, c] 65) (.cells #[.int .i64 0, .slice none 0 0] 74))
  obtain ⟨r, hr⟩ : ∃ r, r = okP p := ⟨_, rfl⟩
  have HR := Lib.hid hr
  have C := Lib.hid (sisp_any (.agg #[.int .i64 p.ins, .int .i64 p.outs, c]) p _ ⟨_, rfl, HC.out.below (hb.out.mono (Nat.le_refl _))⟩)
  rw [← hr] at C
  clear hr
  go_enter Try.func55, Try.ntmps55
  cases r with
  | false =>
    have e0 : newActorR0 p = ⟨0, []⟩ := by unfold newActorR0; rw [← HR.out]; rfl
    rw [e0]
    go_wp2_with (go_at_call 105; refine C.out.mono ?_; rintro e w2 ⟨rfl, hb1⟩; have B := blk_in hH.out hb1; obtain ⟨c0, c1⟩ := cells2 B; have z0 := fr_of B 0; have z1 := fr_of B 1; have HB1 := Lib.hid hb1; clear B hb1)
    refine bodyPost_ret (v := .agg #[.int .i64 0, .slice none 0 0]) (by simp [results, Try.results55, go_sem, c0, c1]) rfl ⟨_, rfl, ⟨_, rfl, own_nil _ _⟩, ?_⟩
    exact ((hb.out.trans (HB1.out.mono (by simp; omega))).setCell (by simp) _).setCell (by simp) _
  | true =>
    have e0 : newActorR0 p = ⟨0, [0, 0, 0, 0]⟩ := by unfold newActorR0; rw [← HR.out]; rfl
    rw [e0]
    go_wp2_with (go_at_call 105; refine C.out.mono ?_; rintro e w2 ⟨rfl, hb1⟩; have B := blk_in hH.out hb1; obtain ⟨c0, c1⟩ := cells2 B; have z0 := fr_of B 0; have z1 := fr_of B 1; have ll := lt_of B; have HB1 := Lib.hid hb1; clear B hb1)
    refine bodyPost_ret (v := .agg #[.int .i64 0, .slice (some ⟨w2.heap.size, 0, none⟩) 4 4]) (by simp [results, Try.results55, go_sem, c0, c1, ll]) rfl ⟨_, rfl, ⟨_, rfl, ?_⟩, ?_⟩
    · exact (own_lit4 _ _ 0 0 0 0 (by simp)).mono (by have := HB1.out.size; simp at this; omega)
    · exact (((hb.out.trans (HB1.out.mono (by simp; omega))).setCell (by simp) _).setCell (by simp) _).alloc (by have := HB1.out.size; simp at this; simp; omega) _

end Go.Proofs.Ytmfagmfclehdbaa
