/-
  What the program's RunProcess answers, refusals too. No statement of the seat is proved here.
-/
import Derived.Test.YtfjmebggghkehaaRunI
namespace Go.Proofs.Ytfjmebggghkehaa
open Go.RowKit

def runOk (p : Prg) (inp : List (List Int)) (f : Int) : Bool := okP p && areS inp p.ins && decide (0 ≤ f ∧ f ≤ 3000)
def runOf (p : Prg) (inp : List (List Int)) (f : Int) : St × Int := runS p.code inp f.toNat (startS p.ins.toNat p.outs.toNat)
def runProcessR2 (p : Prg) (inp : List (List Int)) (f : Int) : Int := if runOk p inp f then (runOf p inp f).2 else 0
/-- What lies in the two results: rows of the call's own, or nothing where the run is refused. -/
def OutR (lo : Nat) (w : World) (v u : Value) (p : Prg) (inp : List (List Int)) (f : Int) : Prop :=
  if runOk p inp f = true then OutO lo w v u (runOf p inp f).1.outs (runOf p inp f).1.used else v = .slice none 0 0 ∧ u = .slice none 0 0
theorem runOk_p {p : Prg} {inp : List (List Int)} {f : Int} (h : okP p = false) : runOk p inp f = false := by unfold runOk; rw [h]; rfl
theorem runOk_s {p : Prg} {inp : List (List Int)} {f : Int} (h : areS inp p.ins = false) : runOk p inp f = false := by unfold runOk; rw [h]; simp
theorem runOk_f {p : Prg} {inp : List (List Int)} {f : Int} (h : ¬ (0 ≤ f ∧ f ≤ 3000)) : runOk p inp f = false := by unfold runOk; rw [decide_eq_false h]; simp
theorem outR_no {lo : Nat} {w : World} {p : Prg} {inp : List (List Int)} {f : Int} (h : runOk p inp f = false) : OutR lo w (.slice none 0 0) (.slice none 0 0) p inp f := by
  unfold OutR; rw [if_neg (by rw [h]; decide)]; exact ⟨rfl, rfl⟩
theorem runR2_no {p : Prg} {inp : List (List Int)} {f : Int} (h : runOk p inp f = false) : runProcessR2 p inp f = 0 := by
  unfold runProcessR2; rw [if_neg (by rw [h]; decide)]

set_option maxRecDepth 100000 in
set_option maxHeartbeats 8000000 in
theorem irun_any (pv iv : Value) (p : Prg) (inp : List (List Int)) (f : Int) (w : World) (hp : PrgV w pv p) (hi : SlR w iv inp) :
    Calls Try.prog 17 #[pv, iv, .int .i64 f] w fun e w' => ∃ ov uv, e = .returned (.tuple #[ov, uv, .int .i64 (runProcessR2 p inp f), .bool (runOk p inp f)]) ∧ OutR w.heap.size w' ov uv p inp f ∧ Below w.heap.size w w' := by
  cases hk : runOk p inp f with
  | true =>
    have h3 := hk
    unfold runOk at h3
    rw [Bool.and_eq_true, Bool.and_eq_true] at h3
    obtain ⟨⟨h1, h2⟩, h4⟩ := h3
    have hf := of_decide_eq_true h4
    have hP := (okP_parts h1).1
    obtain ⟨pi, po, code⟩ := p
    simp only [] at hP h2
    obtain ⟨ni, rfl⟩ : ∃ n : Nat, pi = n := ⟨pi.toNat, by omega⟩
    obtain ⟨no, rfl⟩ : ∃ n : Nat, po = n := ⟨po.toNat, by omega⟩
    obtain ⟨n, rfl⟩ : ∃ n : Nat, f = n := ⟨f.toNat, by omega⟩
    have q := irun_good pv iv ni no code inp n w hp hi h1 h2 (by omega)
    refine q.mono ?_
    rintro e w' ⟨ov, uv, rfl, ho, hb⟩
    refine ⟨ov, uv, ?_, ?_, hb⟩
    · unfold runProcessR2; rw [if_pos hk]; rfl
    · unfold OutR; rw [if_pos hk]; exact ho
  | false =>
    have HK := Lib.hid hk
    have e2 := Lib.hid (runR2_no hk)
    obtain ⟨r2, hr2⟩ : ∃ z, z = runProcessR2 p inp f := ⟨_, rfl⟩
    rw [← hr2] at e2 ⊢
    obtain rfl := e2.out
    clear e2 hr2 hk
    obtain ⟨c, rfl, hc⟩ := hp
    have HC := Lib.hid hc
    have HI := Lib.hid hi
    obtain ⟨pi, po, code⟩ := p
    simp only [] at HC hc ⊢
    have hb := Lib.hid ((Below.refl w.heap.size w).al (.cells #[.int .i64 pi, .int .i64 po, c] 31))
    have hH := Lib.hid (hp1 w (.cells #[.int .i64 pi, .int .i64 po, c] 31))
    have CP := Lib.hid (fun (W : World) (hw : Below w.heap.size w W) => iisp_any (.agg #[.int .i64 pi, .int .i64 po, c]) ⟨pi, po, code⟩ W ⟨_, rfl, HC.out.below hw⟩)
    clear hc hi
    cases h1 : okP ⟨pi, po, code⟩ with
    | false =>
      rw [h1] at CP
      clear h1
      go_enter Try.func17, Try.ntmps17
      go_wp2_with (go_at_call 73; with_reducible refine (CP.out _ hb.out).mono ?_; rintro e w2 ⟨rfl, hb1⟩; have HB1 := Lib.hid (hb.out.trans (hb1.mono hb.out.size)); clear hb1)
      exact bodyPost_ret (v := .tuple #[.slice none 0 0, .slice none 0 0, .int .i64 0, .bool false]) (by simp [results, Try.results17, go_sem]) rfl ⟨_, _, rfl, outR_no HK.out, HB1.out⟩
    | true =>
      rw [h1] at CP
      have CA := Lib.hid (fun (W : World) (hw : Below w.heap.size w W) => iares_any iv inp pi W (HI.out.below hw))
      cases h2 : areS inp pi with
      | false =>
        rw [h2] at CA
        clear h1 h2
        go_enter Try.func17, Try.ntmps17
        go_wp2_with (first | (go_at_call 74; with_reducible refine (CA.out _ HB1.out).mono ?_; rintro e w' ⟨rfl, rfl⟩) | (go_at_call 73; with_reducible refine (CP.out _ hb.out).mono ?_; rintro e w2 ⟨rfl, hb1⟩; have HB1 := Lib.hid (hb.out.trans (hb1.mono hb.out.size)); have G := blk_in hH.out hb1; obtain ⟨p0, p1, p2⟩ := cells3 G; have lp := lt_of G; clear hb1 G))
        exact bodyPost_ret (v := .tuple #[.slice none 0 0, .slice none 0 0, .int .i64 0, .bool false]) (by simp [results, Try.results17, go_sem]) rfl ⟨_, _, rfl, outR_no HK.out, HB1.out⟩
      | true =>
        rw [h2] at CA
        have hf : ¬ (0 ≤ f ∧ f ≤ 3000) := fun q => by have := HK.out; unfold runOk at this; rw [h1, h2, decide_eq_true q] at this; cases this
        clear h1 h2
        by_cases h3 : f < 0
        · have d1 : decide (f < 0) = true := decide_eq_true h3
          go_enter Try.func17, Try.ntmps17
          go_wp2_with (first | (go_at_call 74; with_reducible refine (CA.out _ HB1.out).mono ?_; rintro e w' ⟨rfl, rfl⟩) | (go_at_call 73; with_reducible refine (CP.out _ hb.out).mono ?_; rintro e w2 ⟨rfl, hb1⟩; have HB1 := Lib.hid (hb.out.trans (hb1.mono hb.out.size)); have G := blk_in hH.out hb1; obtain ⟨p0, p1, p2⟩ := cells3 G; have lp := lt_of G; clear hb1 G))
          exact bodyPost_ret (v := .tuple #[.slice none 0 0, .slice none 0 0, .int .i64 0, .bool false]) (by simp [results, Try.results17, go_sem]) rfl ⟨_, _, rfl, outR_no HK.out, HB1.out⟩
        · have d1 : decide (f < 0) = false := decide_eq_false h3
          have d2 : decide (f > 3000) = true := decide_eq_true (by omega)
          have d3 : decide (3000 < f) = true := decide_eq_true (by omega)
          go_enter Try.func17, Try.ntmps17
          go_wp2_with (first | (go_at_call 74; with_reducible refine (CA.out _ HB1.out).mono ?_; rintro e w' ⟨rfl, rfl⟩) | (go_at_call 73; with_reducible refine (CP.out _ hb.out).mono ?_; rintro e w2 ⟨rfl, hb1⟩; have HB1 := Lib.hid (hb.out.trans (hb1.mono hb.out.size)); have G := blk_in hH.out hb1; obtain ⟨p0, p1, p2⟩ := cells3 G; have lp := lt_of G; clear hb1 G))
          exact bodyPost_ret (v := .tuple #[.slice none 0 0, .slice none 0 0, .int .i64 0, .bool false]) (by simp [results, Try.results17, go_sem]) rfl ⟨_, _, rfl, outR_no HK.out, HB1.out⟩
end Go.Proofs.Ytfjmebggghkehaa
