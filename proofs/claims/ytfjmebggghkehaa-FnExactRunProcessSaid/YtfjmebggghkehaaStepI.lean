/-
  What the program's StepActor answers. No statement of the seat is proved here.
-/
import Derived.Test.YtfjmebggghkehaaExecAll
import Derived.Test.YtfjmebggghkehaaRun
import Derived.Test.YtfjmebggghkehaaMake
import Derived.Test.YtfjmebggghkehaaNetW
namespace Go.Proofs.Ytfjmebggghkehaa
open Go.RowKit

def stepB (p : Prg) (a : Act) (t : Int) : Bool := (okP p && okA p a) && (decide (wantC p.code a.pc.toNat ≠ 0) && (decide (wantC p.code a.pc.toNat ≠ 2) || isTok t))
def stepActorR0 (p : Prg) (a : Act) (t : Int) : Act := if stepB p a t = true then ⟨pcI (insAt p.code a.pc.toNat) a.regs a.pc, regsI (insAt p.code a.pc.toNat) a.regs t⟩ else ⟨0, []⟩
def stepActorR1 (p : Prg) (a : Act) (t : Int) : Int := if stepB p a t = true then outI (insAt p.code a.pc.toNat) a.regs else 0
def stepActorR2 (p : Prg) (a : Act) (t : Int) : Bool := stepB p a t
theorem stepActor_no {p : Prg} {a : Act} {t : Int} (h : stepB p a t = false) : stepActorR0 p a t = ⟨0, []⟩ ∧ stepActorR1 p a t = 0 ∧ stepActorR2 p a t = false := by
  unfold stepActorR0 stepActorR1 stepActorR2; rw [h]; exact ⟨rfl, rfl, rfl⟩
theorem stepActor_yes {p : Prg} {a : Act} {t : Int} (h : stepB p a t = true) : stepActorR0 p a t = ⟨pcI (insAt p.code a.pc.toNat) a.regs a.pc, regsI (insAt p.code a.pc.toNat) a.regs t⟩ ∧ stepActorR1 p a t = outI (insAt p.code a.pc.toNat) a.regs ∧ stepActorR2 p a t = true := by
  unfold stepActorR0 stepActorR1 stepActorR2; rw [h]; exact ⟨rfl, rfl, rfl⟩
theorem step_x {p : Prg} {a : Act} {t : Int} (h : stepB p a t = true) : (okP p = true ∧ okA p a = true) ∧ ∃ k : Nat, a.pc = k ∧ p.code[k]? = some (insAt p.code k) ∧ (insAt p.code k).op ≠ 11 := by
  unfold stepB at h
  rw [Bool.and_eq_true, Bool.and_eq_true] at h
  obtain ⟨⟨h1, h2⟩, h3⟩ := h
  have hb := (okA_parts h2).1.1
  refine ⟨⟨h1, h2⟩, a.pc.toNat, by omega, ?_⟩
  rw [Bool.and_eq_true] at h3
  have hw := of_decide_eq_true h3.1
  unfold wantC at hw
  cases e : p.code[a.pc.toNat]? with
  | none => rw [e] at hw; exact absurd rfl hw
  | some x =>
    rw [e] at hw
    have : insAt p.code a.pc.toNat = x := by unfold insAt; rw [List.getD_eq_getElem?_getD, e]; rfl
    rw [this]
    refine ⟨rfl, fun q => hw ?_⟩
    simp only [wantI]
    rw [if_pos q]
theorem stepActor_len0 (p : Prg) (a : Act) (t : Int) : (stepActorR0 p a t).regs.length ≤ 1048576 := by
  by_cases h : stepB p a t = true
  · rw [(stepActor_yes h).1]
    have := (okA_parts (step_x h).1.2).1.2
    simp [regsI]; omega
  · rw [(stepActor_no (by simpa using h)).1]; simp

theorem own_four {lo : Nat} {w : World} {v : Value} {xs : List Int} (h : Own lo w v xs) (hl : xs.length = 4) : ∃ r rc, v = .slice (some ⟨r, 0, none⟩) 4 rc := by
  rcases h.2 with ⟨rfl, hn⟩ | ⟨g, cap, cur, rfl, _⟩
  · omega
  · exact ⟨g, cap, by rw [hl]⟩

set_option maxRecDepth 100000 in
set_option maxHeartbeats 4000000 in
theorem icopyA_any (v : Value) (a : Act) (w : World) (h : ActV w v a) (hl : a.regs.length = 4) :
    Calls Try.prog 83 #[v] w fun e w' => ∃ r rc, e = .returned (.agg #[.int .i64 a.pc, .slice (some ⟨r, 0, none⟩) 4 rc]) ∧ Own w.heap.size w' (.slice (some ⟨r, 0, none⟩) 4 rc) a.regs ∧ Below w.heap.size w w' := by
  obtain ⟨c, rfl, hc⟩ := h
  obtain ⟨pc, regs⟩ := a
  simp only [] at hc hl ⊢
  have HC := Lib.hid hc
  have HL := Lib.hid hl
  clear hc hl
  have hb := Lib.hid (((Below.refl w.heap.size w).al (.cells #[.int .i64 pc, c] 43)).al (.cells #[.int .i64 0, .slice none 0 0] 43))
  have hH := Lib.hid (hp2 w (.cells #[.int .i64 pc, c] 43) (.cells #[.int .i64 0, .slice none 0 0] 43))
  have hH1 := Lib.hid (hp21 w (.cells #[.int .i64 pc, c] 43) (.cells #[.int .i64 0, .slice none 0 0] 43))
  go_enter Try.func83, Try.ntmps83
  go_wp2_with fail
  go_region_with (go_at_call 139; refine (copyOf_any _ regs _ (HC.out.below (by first | exact hb.out | exact hb.out.drew)) (by have := HL.out; omega)).mono ?_; rintro e w2 ⟨v', rfl, ho, hb1⟩; obtain ⟨r, rc, rfl⟩ := own_four ho HL.out; have hc1 := (show Below (((w.alloc (.cells #[.int .i64 pc, c] 43)).alloc (.cells #[.int .i64 0, .slice none 0 0] 43))).heap.size ((w.alloc (.cells #[.int .i64 pc, c] 43)).alloc (.cells #[.int .i64 0, .slice none 0 0] 43)) w2 by first | exact hb1 | exact cr_d hb1); have B := blk_in hH.out hc1; have B1 := blk_in hH1.out hc1; obtain ⟨q0, q1⟩ := cells2 B; obtain ⟨a0, a1⟩ := cells2 B1; have z0 := fr_of B 0; have z1 := fr_of B 1; have y0 := fr_of B1 0; have y1 := fr_of B1 1; have HO := Lib.hid (show Own (w.heap.size + 2) w2 (.slice (some ⟨r, 0, none⟩) 4 rc) regs from ho.mono (by simp)); have HB1 := Lib.hid hc1; clear B B1 ho hb1 hc1)
  all_goals
    go_wp2_with fail
    refine bodyPost_ret (v := .agg #[.int .i64 pc, .slice (some ⟨r, 0, none⟩) 4 rc]) (by simp [results, Try.results83, go_sem, q0, q1]) rfl ⟨r, rc, rfl, ?_, ?_⟩
    · first
      | exact ((HO.out.setB (by simp) _).setB (by simp) _).mono (by omega)
      | exact Own.mono (((HO.out.below ((Below.refl _ _).drew)).setB (by simp) _).setB (by simp) _) (by omega)
    · first
      | exact ((hb.out.trans (HB1.out.mono (by simp; omega))).setCell (by simp) _).setCell (by simp) _
      | exact (((hb.out.trans (HB1.out.mono (by simp; omega))).drew).setCell (by simp) _).setCell (by simp) _
      | exact (((hb.out.trans (HB1.out.mono (by simp; omega))).setCell (by simp) _).setCell (by simp) _).drew

end Go.Proofs.Ytfjmebggghkehaa
