/-
  Words for slices of slices of ints, and what areStreams answers. No statement of the seat is proved here.
-/
import Derived.Test.YtmfagmfclehdbaaRun
import Derived.Test.YtmfagmfclehdbaaBoxes
namespace Go.Proofs.Ytmfagmfclehdbaa
open Go.RowKit

theorem infoS : (Try.prog.info? 42).map (fun i => (i.zero, i.size, i.bytes)) = some (some (.slice none 0 0), 1, 24) := by kernel_rfl
theorem infoS_parts : ∃ i0, Try.prog.info? 42 = some i0 ∧ i0.zero = some (.slice none 0 0) ∧ i0.size = 1 ∧ i0.bytes = 24 := by
  have h := infoS
  cases e : Try.prog.info? 42 with
  | none => rw [e] at h; cases h
  | some i =>
    rw [e] at h
    simp only [Option.map_some, Option.some.injEq, Prod.mk.injEq] at h
    exact ⟨i, rfl, h.1, h.2.1, h.2.2⟩
/-- 'v' is a slice of slices of ints that reads as 'xss'. -/
def SlR (w : World) (v : Value) (xss : List (List Int)) : Prop :=
  ∃ (a : Option Addr) (cap : Nat), v = .slice a xss.length cap ∧ xss.length ≤ cap ∧ cap ≤ maxLen ∧ (a = none → cap = 0) ∧
    (xss = [] ∨ ∃ b off, a = some ⟨b, off, none⟩ ∧ b < w.heap.size ∧ ∀ i xs, xss[i]? = some xs → ∃ u, w.cell? ⟨b, off + i, none⟩ = some u ∧ Sl w u xs)
theorem SlR.below {w w' : World} {v : Value} {xss : List (List Int)} (h : SlR w v xss) (hb : Below w.heap.size w w') : SlR w' v xss := by
  obtain ⟨a, cap, hv, h1, h2, h3, h4⟩ := h
  refine ⟨a, cap, hv, h1, h2, h3, ?_⟩
  rcases h4 with h4 | ⟨b, off, ha, hlt, hc⟩
  · exact .inl h4
  · refine .inr ⟨b, off, ha, Nat.lt_of_lt_of_le hlt hb.size, fun i xs hi => ?_⟩
    obtain ⟨u, h5, h6⟩ := hc i xs hi
    exact ⟨u, (hb.cell hlt).trans h5, h6.below hb⟩

def areS (xss : List (List Int)) (n : Int) : Bool := decide ((xss.length : Int) = n) && xss.all isS
theorem areS_parts {xss : List (List Int)} {n : Int} (h : areS xss n = true) : (xss.length : Int) = n ∧ ∀ xs ∈ xss, isS xs = true := by
  unfold areS at h
  rw [Bool.and_eq_true] at h
  exact ⟨of_decide_eq_true h.1, List.all_eq_true.1 h.2⟩
theorem allS_step {xss : List (List Int)} {k : Nat} {x : List Int} (hx : xss[k]? = some x) (ha : (xss.take k).all isS = true) (hp : isS x = true) : (xss.take (k + 1)).all isS = true := by
  have hk := (List.getElem?_eq_some_iff.1 hx).1
  rw [List.take_succ_eq_append_getElem hk, (List.getElem?_eq_some_iff.1 hx).2]; simp at ha ⊢; exact ⟨ha, hp⟩
theorem allS_no {xss : List (List Int)} {k : Nat} {x : List Int} (hx : xss[k]? = some x) (hp : isS x = false) : xss.all isS = false := by
  rw [List.all_eq_false]
  exact ⟨x, List.mem_of_getElem? hx, by simp [hp]⟩

set_option maxRecDepth 100000 in
set_option maxHeartbeats 1600000 in
theorem iares_any (v : Value) (xss : List (List Int)) (n : Int) (w : World) (h : SlR w v xss) :
    Calls Try.prog 95 #[v, .int .i64 n] w fun e w' => e = .returned (.bool (areS xss n)) ∧ w = w' := by
  obtain ⟨a, cap, rfl, hl, hm, hn, hc⟩ := h
  have hm' : xss.length ≤ 9223372036854775807 := by unfold maxLen at hm; omega
  clear hm hn
  obtain ⟨m, hmm⟩ : ∃ m, m = xss.length := ⟨_, rfl⟩
  obtain ⟨r, hr⟩ : ∃ r, r = areS xss n := ⟨_, rfl⟩
  rw [← hmm] at hm' hl ⊢
  rw [← hr]
  have HM := Lib.hid hmm
  have HR := Lib.hid hr
  clear hmm hr
  by_cases he : (m : Int) = n
  · have HE := Lib.hid he
    subst he
    go_enter Try.func95, Try.ntmps95
    go_wp2_with fail
    go_loop [13] (fun i => ∃ k : Nat, k ≤ m ∧ i = .int .i64 k ∧ Hid ((xss.take k).all isS = true)) (fun i => m - (intOf i).toNat)
    case atStart => exact ⟨0, Nat.zero_le _, rfl, by simp [Hid]⟩
    case round =>
      obtain ⟨k, hk, rfl, hA⟩ := hrel
      by_cases hlt : k < m
      · rcases hc with rfl | ⟨b, off, rfl, _, hcell⟩
        · exact absurd hlt (by have := HM.out; simp at this; omega)
        · obtain ⟨x, hx⟩ : ∃ x, xss[k]? = some x := ⟨_, List.getElem?_eq_getElem (by rw [← HM.out]; exact hlt)⟩
          obtain ⟨u, hu, hs⟩ := hcell k x hx
          have HX := Lib.hid hx
          have C := Lib.hid (istream_any u x w hs)
          clear hx hcell hs
          cases ht : isS x with
          | true =>
            rw [ht] at C
            go_wp2_with (go_at_call 111; refine C.out.mono ?_; rintro e w' ⟨rfl, rfl⟩)
            go_round
            case rel => exact ⟨k + 1, by omega, by go_num, allS_step HX.out hA.out ht⟩
            case measure => simp [intOf]; omega
          | false =>
            rw [ht] at C
            go_wp2_with (go_at_call 111; refine C.out.mono ?_; rintro e w' ⟨rfl, rfl⟩)
            go_ret
            exact ⟨ret_bool (HR.out.trans (by unfold areS; rw [allS_no HX.out ht]; simp)), rfl⟩
      · go_wp2_with fail
        go_ret
        refine ⟨ret_bool (HR.out.trans ?_), rfl⟩
        have := hA.out
        rw [List.take_of_length_le (by rw [← HM.out]; omega)] at this
        unfold areS
        rw [this, decide_eq_true (by rw [← HM.out])]
        rfl
  · have d : ((m : Int) == n) = false := by simpa using he
    have HE := Lib.hid he
    go_enter Try.func95, Try.ntmps95
    go_wp2_with fail
    go_ret
    exact ⟨ret_bool (HR.out.trans (by unfold areS; rw [decide_eq_false (by rw [← HM.out]; exact HE.out)]; rfl)), rfl⟩
end Go.Proofs.Ytmfagmfclehdbaa
