/-
  Whether histories lie below others. No statement of the seat is proved here.
-/
import Derived.Test.YtfjmebggghkehaaHist
import Derived.Test.YtfjmebggghkehaaPrefix
namespace Go.Proofs.Ytfjmebggghkehaa
open Go.RowKit

def preB (g h : List (List Int)) (k : Nat) : Bool := (List.range k).all fun i => prefB (g.getD i []) (h.getD i [])
theorem preB_step {g h : List (List Int)} {k : Nat} (ha : preB g h k = true) (hp : prefB (g.getD k []) (h.getD k []) = true) : preB g h (k + 1) = true := by
  unfold preB at *
  rw [List.all_eq_true] at *
  intro i hi
  rcases Nat.lt_or_ge i k with q | q
  · exact ha i (List.mem_range.2 q)
  · obtain rfl : i = k := by have := List.mem_range.1 hi; omega
    exact hp
theorem preB_no {g h : List (List Int)} {k m : Nat} (hk : k < m) (hp : prefB (g.getD k []) (h.getD k []) = false) : preB g h m = false := by
  unfold preB
  rw [List.all_eq_false]
  exact ⟨k, List.mem_range.2 hk, by rw [hp]; decide⟩
def areBelowR0 (n : Net) (g h : List (List Int)) : Bool := areHistoriesR0 n g && (areHistoriesR0 n h && preB g h g.length)
theorem hist_parts {n : Net} {g : List (List Int)} (h : areHistoriesR0 n g = true) : (g.length : Int) = n.links.length ∧ ∀ xs ∈ g, isS xs = true := by
  unfold areHistoriesR0 at h
  rw [Bool.and_eq_true] at h
  exact areS_parts h.2
theorem getD_of {α : Type} {l : List α} {k : Nat} {x d : α} (h : l[k]? = some x) : l.getD k d = x := by rw [List.getD_eq_getElem?_getD, h]; rfl

set_option maxRecDepth 100000 in
set_option maxHeartbeats 1600000 in
theorem ieqf_any (v u : Value) (g h : List (List Int)) (w : World) (hg : SlR w v g) (hh : SlR w u h) :
    Calls Try.prog 130 #[v, u, .func (.func 131) #[] #[]] w fun e w' => e = .returned (.bool (decide (g.length = h.length) && preB g h g.length)) ∧ Below w.heap.size w w' := by
  obtain ⟨R, hR⟩ : ∃ R, R = (decide (g.length = h.length) && preB g h g.length) := ⟨_, rfl⟩
  rw [← hR]
  have HR := Lib.hid hR
  clear hR
  obtain ⟨a, cap, rfl, _, hm, _, hc⟩ := hg
  obtain ⟨b, cap2, rfl, _, hm2, _, hc2⟩ := hh
  have hm' : g.length ≤ 9223372036854775807 := by unfold maxLen at hm; omega
  have hm2' : h.length ≤ 9223372036854775807 := by unfold maxLen at hm2; omega
  clear hm hm2
  obtain ⟨m, hmm⟩ : ∃ m, m = g.length := ⟨_, rfl⟩
  obtain ⟨m2, hmm2⟩ : ∃ m, m = h.length := ⟨_, rfl⟩
  rw [← hmm] at hm' ⊢
  rw [← hmm2] at hm2' ⊢
  have HM := Lib.hid hmm
  have HM2 := Lib.hid hmm2
  clear hmm hmm2
  by_cases he : m = m2
  · have HE := Lib.hid he
    subst he
    go_enter Try.func130, Try.ntmps130
    go_wp2_with fail
    go_loopw [17] (fun i wr => ∃ k : Nat, k ≤ m ∧ i = .int .i64 k ∧ Hid (preB g h k = true) ∧ Hid (Below w.heap.size w wr)) (fun i _ => m - (intOf i).toNat)
    case atStart => exact ⟨0, Nat.zero_le _, rfl, Lib.hid (by simp [preB]), Lib.hid (Below.refl _ _)⟩
    case round =>
      obtain ⟨k, hk, rfl, HA, HB⟩ := hrel
      by_cases hlt : k < m
      · rcases hc with rfl | ⟨gb, off, rfl, hbl, hcell⟩
        · exact absurd hlt (by have := HM.out; simp at this; omega)
        · rcases hc2 with rfl | ⟨hb, off2, rfl, hbl2, hcell2⟩
          · exact absurd hlt (by have := HM2.out; simp at this; omega)
          · obtain ⟨x, hx⟩ : ∃ x, g[k]? = some x := ⟨_, List.getElem?_eq_getElem (by rw [← HM.out]; exact hlt)⟩
            obtain ⟨y, hy⟩ : ∃ y, h[k]? = some y := ⟨_, List.getElem?_eq_getElem (by rw [← HM2.out]; exact hlt)⟩
            obtain ⟨u1, e0, ee⟩ := hcell k x hx
            obtain ⟨u2, f0, ff⟩ := hcell2 k y hy
            have c0 := (HB.out.cell (p := ⟨gb, off + k, none⟩) hbl).trans e0
            have d0 := (HB.out.cell (p := ⟨hb, off2 + k, none⟩) hbl2).trans f0
            have hbk : gb < wr.heap.size := Nat.lt_of_lt_of_le hbl HB.out.size
            have hbk2 : hb < wr.heap.size := Nat.lt_of_lt_of_le hbl2 HB.out.size
            have C := Lib.hid (iprefixB u1 x u2 y wr (ee.below HB.out) (ff.below HB.out))
            have HP := Lib.hid (show prefB (g.getD k []) (h.getD k []) = prefB x y by rw [getD_of hx, getD_of hy])
            clear hx hy hcell hcell2 e0 f0 ee ff
            cases ht : prefB x y with
            | true =>
              rw [ht] at C HP
              go_wp2_with (go_at_call 131; with_reducible refine C.out.mono ?_; rintro e w2 ⟨rfl, hb1⟩; have HB1 := Lib.hid (HB.out.trans (hb1.mono HB.out.size)); clear hb1)
              go_roundw
              case rel => exact ⟨k + 1, by omega, by go_num, Lib.hid (preB_step HA.out HP.out), HB1⟩
              case measure => simp [intOf]; omega
            | false =>
              rw [ht] at C HP
              go_wp2_with (go_at_call 131; with_reducible refine C.out.mono ?_; rintro e w2 ⟨rfl, hb1⟩; have HB1 := Lib.hid (HB.out.trans (hb1.mono HB.out.size)); clear hb1)
              go_ret
              exact ⟨ret_bool (HR.out.trans (by rw [preB_no (by rw [← HM.out]; exact hlt) HP.out]; simp)), HB1.out⟩
      · have HA1 := Lib.hid (show preB g h m = true by have := HA.out; rwa [show k = m by omega] at this)
        go_wp2_with fail
        go_ret
        exact ⟨ret_bool (HR.out.trans (by rw [← HM.out, HA1.out, ← HM2.out]; simp)), HB.out⟩
  · have d : ((m : Int) == (m2 : Int)) = false := by simpa using fun e : (m : Int) = m2 => he (by omega)
    have HE := Lib.hid he
    go_enter Try.func130, Try.ntmps130
    go_wp2_with fail
    go_ret
    exact ⟨ret_bool (HR.out.trans (by rw [decide_eq_false (by rw [← HM.out, ← HM2.out]; exact HE.out)]; rfl)), Below.refl _ _⟩

set_option maxRecDepth 100000 in
set_option maxHeartbeats 4000000 in
theorem ibelow_any (v u1 u2 : Value) (n : Net) (g h : List (List Int)) (w : World) (hv : NetV w v n) (hg : SlR w u1 g) (hh : SlR w u2 h) :
    Calls Try.prog 70 #[v, u1, u2] w fun e w' => e = .returned (.bool (areBelowR0 n g h)) ∧ Below w.heap.size w w' := by
  have CG := Lib.hid (fun (W : World) (hw : Below w.heap.size w W) => ihist_any v u1 n g W (hv.below hw) (hg.below hw))
  have CH := Lib.hid (fun (W : World) (hw : Below w.heap.size w W) => ihist_any v u2 n h W (hv.below hw) (hh.below hw))
  have CE := Lib.hid (fun (W : World) (hw : Below w.heap.size w W) => ieqf_any u1 u2 g h W (hg.below hw) (hh.below hw))
  obtain ⟨R, hR⟩ : ∃ R, R = areBelowR0 n g h := ⟨_, rfl⟩
  rw [← hR]
  unfold areBelowR0 at hR
  obtain ⟨c, d, rfl, hp, hl⟩ := hv
  obtain ⟨la, lcap, rfl⟩ := hl.shape
  obtain ⟨pa, pcap, rfl⟩ := hp.shape
  obtain ⟨m, hm⟩ : ∃ m, m = n.progs.length := ⟨_, rfl⟩
  obtain ⟨ll, hll⟩ : ∃ m, m = n.links.length := ⟨_, rfl⟩
  rw [← hm, ← hll] at CG CH ⊢
  clear hp hl hm hll hg hh
  have hb := Lib.hid ((Below.refl w.heap.size w).al (.cells #[.slice pa m pcap, .slice la ll lcap] 52))
  have hH := Lib.hid (hp1 w (.cells #[.slice pa m pcap, .slice la ll lcap] 52))
  cases h1 : areHistoriesR0 n g with
  | false =>
    rw [h1] at CG hR
    obtain rfl : R = false := hR
    clear h1
    go_enter Try.func70, Try.ntmps70
    go_wp2_with (go_at_call 68; with_reducible refine (CG.out _ hb.out).mono ?_; rintro e w2 ⟨rfl, hb1⟩; have HB1 := Lib.hid (hb.out.trans (hb1.mono hb.out.size)); clear hb1)
    go_ret
    exact ⟨rfl, HB1.out⟩
  | true =>
    rw [h1, Bool.true_and] at hR
    rw [h1] at CG
    cases h2 : areHistoriesR0 n h with
    | false =>
      rw [h2] at CH hR
      obtain rfl : R = false := hR
      clear h1 h2
      go_enter Try.func70, Try.ntmps70
      go_wp2_with fail
      go_at_call 68
      with_reducible refine (CG.out _ hb.out).mono ?_
      rintro e w2 ⟨rfl, hb1⟩
      have HB1 := Lib.hid (hb.out.trans (hb1.mono hb.out.size))
      have G1 := Lib.hid (blk_in hH.out hb1)
      obtain ⟨k0, k1⟩ := cells2 G1.out
      have gl := lt_of G1.out
      clear hb1
      go_wp2_with fail
      go_at_call 68
      with_reducible refine (CH.out _ HB1.out).mono ?_
      rintro e w3 ⟨rfl, hb1⟩
      have HB2 := Lib.hid (HB1.out.trans (hb1.mono HB1.out.size))
      clear hb1
      go_wp2_with fail
      go_ret
      exact ⟨rfl, HB2.out⟩
    | true =>
      rw [h2, Bool.true_and] at hR
      rw [h2] at CH
      have e1 : decide (g.length = h.length) = true := decide_eq_true (by have q1 := (hist_parts h1).1; have q2 := (hist_parts h2).1; omega)
      rw [e1, Bool.true_and, ← hR] at CE
      clear h1 h2 hR e1
      go_enter Try.func70, Try.ntmps70
      go_wp2_with fail
      go_at_call 68
      with_reducible refine (CG.out _ hb.out).mono ?_
      rintro e w2 ⟨rfl, hb1⟩
      have HB1 := Lib.hid (hb.out.trans (hb1.mono hb.out.size))
      have G1 := Lib.hid (blk_in hH.out hb1)
      obtain ⟨k0, k1⟩ := cells2 G1.out
      have gl := lt_of G1.out
      clear hb1
      go_wp2_with fail
      go_at_call 68
      with_reducible refine (CH.out _ HB1.out).mono ?_
      rintro e w3 ⟨rfl, hb1⟩
      have HB2 := Lib.hid (HB1.out.trans (hb1.mono HB1.out.size))
      clear hb1
      go_wp2_with fail
      go_at_call 130
      with_reducible refine (CE.out _ HB2.out).mono ?_
      rintro e w4 ⟨rfl, hb1⟩
      have HB3 := Lib.hid (HB2.out.trans (hb1.mono HB2.out.size))
      clear hb1
      go_wp2_with fail
      go_ret
      exact ⟨rfl, HB3.out⟩

set_option maxRecDepth 100000 in
set_option maxHeartbeats 4000000 in
theorem sbelow_any (v u1 u2 : Value) (n : Net) (g h : List (List Int)) (w : World) (hv : NetV w v n) (hg : SlR w u1 g) (hh : SlR w u2 h) :
    Calls Try.prog 69 #[v, u1, u2] w fun e w' => e = .returned (.bool (areBelowR0 n g h)) ∧ Below w.heap.size w w' := by
  have CG := Lib.hid (fun (W : World) (hw : Below w.heap.size w W) => shist_any v u1 n g W (hv.below hw) (hg.below hw))
  have CH := Lib.hid (fun (W : World) (hw : Below w.heap.size w W) => shist_any v u2 n h W (hv.below hw) (hh.below hw))
  obtain ⟨R, hR⟩ : ∃ R, R = areBelowR0 n g h := ⟨_, rfl⟩
  rw [← hR]
  unfold areBelowR0 at hR
  obtain ⟨c, d, rfl, hp, hl⟩ := hv
  obtain ⟨la, lcap, rfl⟩ := hl.shape
  obtain ⟨pa, pcap, rfl⟩ := hp.shape
  obtain ⟨m, hm⟩ : ∃ m, m = n.progs.length := ⟨_, rfl⟩
  obtain ⟨ll, hll⟩ : ∃ m, m = n.links.length := ⟨_, rfl⟩
  rw [← hm, ← hll] at CG CH ⊢
  clear hp hl hm hll
  have hb := Lib.hid ((Below.refl w.heap.size w).al (.cells #[.slice pa m pcap, .slice la ll lcap] 52))
  have hH := Lib.hid (hp1 w (.cells #[.slice pa m pcap, .slice la ll lcap] 52))
  cases h1 : areHistoriesR0 n g with
  | false =>
    rw [h1] at CG hR
    obtain rfl : R = false := hR
    clear h1 hg hh
    go_enter Try.func69, Try.ntmps69
    go_wp2_with (go_at_call 67; with_reducible refine (CG.out _ hb.out).mono ?_; rintro e w2 ⟨rfl, hb1⟩; have HB1 := Lib.hid (hb.out.trans (hb1.mono hb.out.size)); clear hb1)
    go_ret
    exact ⟨rfl, HB1.out⟩
  | true =>
    rw [h1, Bool.true_and] at hR
    rw [h1] at CG
    cases h2 : areHistoriesR0 n h with
    | false =>
      rw [h2] at CH hR
      obtain rfl : R = false := hR
      clear h1 h2 hg hh
      go_enter Try.func69, Try.ntmps69
      go_wp2_with fail
      go_at_call 67
      with_reducible refine (CG.out _ hb.out).mono ?_
      rintro e w2 ⟨rfl, hb1⟩
      have HB1 := Lib.hid (hb.out.trans (hb1.mono hb.out.size))
      have G1 := Lib.hid (blk_in hH.out hb1)
      obtain ⟨k0, k1⟩ := cells2 G1.out
      have gl := lt_of G1.out
      clear hb1
      go_wp2_with fail
      go_at_call 67
      with_reducible refine (CH.out _ HB1.out).mono ?_
      rintro e w3 ⟨rfl, hb1⟩
      have HB2 := Lib.hid (HB1.out.trans (hb1.mono HB1.out.size))
      clear hb1
      go_wp2_with fail
      go_ret
      exact ⟨rfl, HB2.out⟩
    | true =>
      rw [h2, Bool.true_and] at hR
      rw [h2] at CH
      have HR := Lib.hid hR
      have e1 : g.length = h.length := by have q1 := (hist_parts h1).1; have q2 := (hist_parts h2).1; omega
      have SG := Lib.hid (hist_parts h1).2
      have SH := Lib.hid (hist_parts h2).2
      have HG := Lib.hid hg
      have HH := Lib.hid hh
      obtain ⟨a, cap, rfl, _, hm, _, _⟩ := hg
      obtain ⟨b, cap2, rfl, _, _, _, _⟩ := hh
      have hm' : g.length ≤ 9223372036854775807 := by unfold maxLen at hm; omega
      rw [← e1] at HH CH ⊢
      obtain ⟨k1, hk1⟩ : ∃ m, m = g.length := ⟨_, rfl⟩
      rw [← hk1] at hm' HG HH CG CH e1 ⊢
      have HM := Lib.hid hk1
      have HM2 := Lib.hid e1
      clear h1 h2 hR e1 hm hk1
      go_enter Try.func69, Try.ntmps69
      go_wp2_with fail
      go_at_call 67
      with_reducible refine (CG.out _ hb.out).mono ?_
      rintro e w2 ⟨rfl, hb1⟩
      have HB1 := Lib.hid (hb.out.trans (hb1.mono hb.out.size))
      have G1 := Lib.hid (blk_in hH.out hb1)
      obtain ⟨q0, q1⟩ := cells2 G1.out
      have gl := lt_of G1.out
      clear hb1
      go_wp2_with fail
      go_at_call 67
      with_reducible refine (CH.out _ HB1.out).mono ?_
      rintro e w3 ⟨rfl, hb1⟩
      have HB2 := Lib.hid (HB1.out.trans (hb1.mono HB1.out.size))
      clear hb1
      have HG3 := Lib.hid (HG.out.below HB2.out)
      have HH3 := Lib.hid (HH.out.below HB2.out)
      clear q0 q1 gl
      go_wp2_with fail
      go_loop [21] (fun i => ∃ k : Nat, k ≤ k1 ∧ i = .int .i64 k ∧ Hid (preB g h k = true)) (fun i => k1 - (intOf i).toNat)
      case atStart => exact ⟨0, Nat.zero_le _, rfl, Lib.hid (by simp [preB])⟩
      case round =>
        obtain ⟨k, hk, rfl, HA⟩ := hrel
        by_cases hlt : k < k1
        · obtain ⟨a', c1', he, _, _, _, hc⟩ := HG3.out
          obtain ⟨b', c2', he2, _, _, _, hc2⟩ := HH3.out
          simp only [Value.slice.injEq] at he he2
          obtain ⟨rfl, hz1, rfl⟩ := he
          obtain ⟨rfl, hz2, rfl⟩ := he2
          clear hz1 hz2
          rcases hc with e | ⟨gb, off, rfl, hbl, hcell⟩
          · exact absurd hlt (by have := HM.out; rw [e] at this; simp at this; omega)
          · rcases hc2 with e | ⟨hb9, off2, rfl, hbl2, hcell2⟩
            · exact absurd hlt (by have := HM2.out; rw [e] at this; simp at this; omega)
            · obtain ⟨x, hx⟩ : ∃ x, g[k]? = some x := ⟨_, List.getElem?_eq_getElem (by rw [← HM.out]; exact hlt)⟩
              obtain ⟨y, hy⟩ : ∃ y, h[k]? = some y := ⟨_, List.getElem?_eq_getElem (by rw [← HM2.out]; exact hlt)⟩
              obtain ⟨u1, e0, ee⟩ := hcell k x hx
              obtain ⟨u2, f0, ff⟩ := hcell2 k y hy
              have C := Lib.hid (begins_any u1 u2 x y w3 ee ff)
              have HP := Lib.hid (show prefB (g.getD k []) (h.getD k []) = begB x y by rw [getD_of hx, getD_of hy]; unfold prefB; rw [SG.out x (List.mem_of_getElem? hx), SH.out y (List.mem_of_getElem? hy)]; rfl)
              clear hx hy hcell hcell2 ee ff
              cases ht : begB x y with
              | true =>
                rw [ht] at C HP
                go_wp2_with (go_at_call 129; with_reducible refine C.out.mono ?_; rintro e w4 ⟨rfl, rfl⟩)
                go_round
                case rel => exact ⟨k + 1, by omega, by go_num, Lib.hid (preB_step HA.out HP.out)⟩
                case measure => simp [intOf]; omega
              | false =>
                rw [ht] at C HP
                go_wp2_with (go_at_call 129; with_reducible refine C.out.mono ?_; rintro e w4 ⟨rfl, rfl⟩)
                go_ret
                exact ⟨ret_bool (HR.out.trans (by rw [preB_no (by rw [← HM.out]; exact hlt) HP.out])), HB2.out⟩
        · have HA1 := Lib.hid (show preB g h k1 = true by have := HA.out; rwa [show k = k1 by omega] at this)
          go_wp2_with fail
          go_ret
          exact ⟨ret_bool (HR.out.trans (by rw [← HM.out, HA1.out])), HB2.out⟩
end Go.Proofs.Ytfjmebggghkehaa
