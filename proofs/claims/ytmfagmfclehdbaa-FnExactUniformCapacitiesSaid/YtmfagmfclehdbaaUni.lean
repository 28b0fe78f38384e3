/-
  Uniform capacities: the program's answer and the model's. No statement of the seat is proved here.
-/
import Derived.Test.YtmfagmfclehdbaaCaps
import Derived.Deep.Cut
import Derived.Maps.AppendAt
namespace Go.Proofs.Ytmfagmfclehdbaa
open Go.RowKit

/-- A row of m whose first k are filled. -/
def fillL (f : Nat → Int) (m k : Nat) : List Int := (List.range m).map fun i => if i < k then f i else 0
theorem fillL_zero (f : Nat → Int) (m : Nat) : vals (fillL f m 0) = List.replicate m (.int .i64 0) := by
  unfold vals fillL
  rw [List.map_map]
  apply List.ext_getElem?
  intro i
  rw [List.getElem?_map, List.getElem?_replicate]
  by_cases h : i < m
  · rw [List.getElem?_range h, if_pos h]; simp
  · rw [List.getElem?_eq_none (by simpa using h), if_neg h]; rfl
theorem fillL_step {f : Nat → Int} {m k : Nat} (hk : k < m) : (vals (fillL f m k)).set k (.int .i64 (f k)) = vals (fillL f m (k + 1)) := by
  unfold vals fillL
  rw [List.map_map, List.map_map]
  apply List.ext_getElem?
  intro i
  rw [List.getElem?_set]
  by_cases e : k = i
  · subst e
    rw [if_pos rfl, if_pos (by simpa using hk), List.getElem?_map, List.getElem?_range hk]
    simp
  · rw [if_neg e, List.getElem?_map, List.getElem?_map]
    by_cases h : i < m
    · rw [List.getElem?_range h]
      simp only [Option.map_some, Function.comp]
      congr 2
      by_cases q : i < k
      · rw [if_pos q, if_pos (by omega)]
      · rw [if_neg q, if_neg (by omega)]
    · rw [List.getElem?_eq_none (by simpa using h)]; rfl
theorem fillL_all (f : Nat → Int) (m : Nat) : fillL f m m = (List.range m).map f := by
  unfold fillL
  apply List.map_congr_left
  intro i hi
  rw [if_pos (List.mem_range.1 hi)]
theorem range_snoc (f : Nat → Int) (k : Nat) : (List.range (k + 1)).map f = (List.range k).map f ++ [f k] := by
  rw [List.range_succ, List.map_append]; rfl

def uniO (c : Int) (l : Lnk) : Int := if c < (l.tok.length : Int) then (l.tok.length : Int) else c
def uniK (n : Net) (c : Int) (k : Nat) : Int := uniO c (n.links.getD k lnk0)
def uniB (n : Net) (c : Int) : Bool := okN n && decide (0 ≤ c ∧ c ≤ 400)
def uniformCapacitiesR0 (n : Net) (c : Int) : List Int := if uniB n c then (List.range n.links.length).map (uniK n c) else []
theorem uni_no {n : Net} {c : Int} (h : uniB n c = false) : uniformCapacitiesR0 n c = [] := by unfold uniformCapacitiesR0; rw [h]; rfl
theorem uni_yes {n : Net} {c : Int} (h : uniB n c = true) : uniformCapacitiesR0 n c = (List.range n.links.length).map (uniK n c) := by unfold uniformCapacitiesR0; rw [h]; rfl
theorem uniformCapacities_bd (n : Net) (c : Int) : (uniformCapacitiesR0 n c).length ≤ 30 := by
  cases h : uniB n c with
  | false => rw [uni_no h]; simp
  | true =>
    rw [uni_yes h]
    unfold uniB at h
    rw [Bool.and_eq_true] at h
    have := (okN_len h.1).2.1
    simpa using this

set_option maxRecDepth 100000 in
set_option maxHeartbeats 8000000 in
theorem iuni_any (v : Value) (n : Net) (c : Int) (w : World) (h : NetV w v n) :
    Calls Try.prog 25 #[v, .int .i64 c] w fun e w' => ∃ r, e = .returned r ∧ OwnH w.heap.size w'.heap.size w' r (uniformCapacitiesR0 n c) ∧ Below w.heap.size w w' := by
  have CN := Lib.hid (fun (W : World) (hw : Below w.heap.size w W) => iisnet_any v n W (h.below hw))
  obtain ⟨pv, lv, rfl, hp, hl⟩ := h
  have LL := hl.len
  have HL := Lib.hid hl
  obtain ⟨la, lcap, rfl⟩ := hl.shape
  obtain ⟨pa, pcap, rfl⟩ := hp.shape
  obtain ⟨m, hm⟩ : ∃ m, m = n.progs.length := ⟨_, rfl⟩
  obtain ⟨ll, hll⟩ : ∃ m, m = n.links.length := ⟨_, rfl⟩
  rw [← hm, ← hll] at CN ⊢
  rw [← hll] at HL LL
  have NL := Lib.hid hll
  clear hp hl hm hll
  obtain ⟨R, hR⟩ : ∃ R, R = uniformCapacitiesR0 n c := ⟨_, rfl⟩
  have HRR := Lib.hid hR
  rw [← hR]
  clear hR
  have hb := Lib.hid ((Below.refl w.heap.size w).al (.cells #[.slice pa m pcap, .slice la ll lcap] 35))
  have hH := Lib.hid (hp1 w (.cells #[.slice pa m pcap, .slice la ll lcap] 35))
  obtain ⟨i0, hi, hz0, hz1, hz2⟩ := info_parts info
  cases ho : okN n with
  | false =>
    rw [ho] at CN
    have HE := Lib.hid (HRR.out.trans (uni_no (by unfold uniB; rw [ho]; rfl)))
    clear ho
    obtain rfl := HE.out
    go_enter Try.func25, Try.ntmps25
    go_wp2_with (go_at_call 57; with_reducible refine (CN.out _ hb.out).mono ?_; rintro e w2 ⟨rfl, hb1⟩; have HB2 := Lib.hid (hb.out.trans (hb1.mono hb.out.size)); have G2 := Lib.hid (blk_in hH.out hb1); obtain ⟨k0, k1⟩ := cells2 G2.out; have gl := lt_of G2.out; clear hb1)
    go_ret
    exact ⟨_, rfl, ⟨own_nil _ _, fun q e => by simp [Value.ownBlock] at e⟩, HB2.out⟩
  | true =>
    rw [ho] at CN
    have HOK := Lib.hid ho
    clear ho
    by_cases c1 : c < 0
    · have d1 : decide (c < 0) = true := decide_eq_true c1
      have HE := Lib.hid (HRR.out.trans (uni_no (by unfold uniB; rw [HOK.out, decide_eq_false (by omega)]; rfl)))
      obtain rfl := HE.out
      clear c1
      go_enter Try.func25, Try.ntmps25
      go_wp2_with (go_at_call 57; with_reducible refine (CN.out _ hb.out).mono ?_; rintro e w2 ⟨rfl, hb1⟩; have HB2 := Lib.hid (hb.out.trans (hb1.mono hb.out.size)); have G2 := Lib.hid (blk_in hH.out hb1); obtain ⟨k0, k1⟩ := cells2 G2.out; have gl := lt_of G2.out; clear hb1)
      go_ret
      exact ⟨_, rfl, ⟨own_nil _ _, fun q e => by simp [Value.ownBlock] at e⟩, HB2.out⟩
    have d1 : decide (c < 0) = false := decide_eq_false c1
    by_cases c2 : c ≤ 400
    case neg =>
      have d2 : decide (c > 400) = true := decide_eq_true (by omega)
      have d3 : decide (400 < c) = true := decide_eq_true (by omega)
      have HE := Lib.hid (HRR.out.trans (uni_no (by unfold uniB; rw [HOK.out, decide_eq_false (by omega)]; rfl)))
      obtain rfl := HE.out
      clear c1 c2
      go_enter Try.func25, Try.ntmps25
      go_wp2_with (go_at_call 57; with_reducible refine (CN.out _ hb.out).mono ?_; rintro e w2 ⟨rfl, hb1⟩; have HB2 := Lib.hid (hb.out.trans (hb1.mono hb.out.size)); have G2 := Lib.hid (blk_in hH.out hb1); obtain ⟨k0, k1⟩ := cells2 G2.out; have gl := lt_of G2.out; clear hb1)
      go_ret
      exact ⟨_, rfl, ⟨own_nil _ _, fun q e => by simp [Value.ownBlock] at e⟩, HB2.out⟩
    have d2 : decide (c > 400) = false := decide_eq_false (by omega)
    have d3 : decide (400 < c) = false := decide_eq_false (by omega)
    have HE := Lib.hid (HRR.out.trans (uni_yes (by unfold uniB; rw [HOK.out, decide_eq_true (show 0 ≤ c ∧ c ≤ 400 by omega)]; rfl)))
    have hll30 : ll ≤ 30 := by rw [NL.out]; exact (okN_len HOK.out).2.1
    have HC := Lib.hid (show 0 ≤ c ∧ c ≤ 400 by omega)
    clear c1 c2
    go_enter Try.func25, Try.ntmps25
    go_wp2_with (first | (go_at_call 57; with_reducible refine (CN.out _ hb.out).mono ?_; rintro e w2 ⟨rfl, hb1⟩; have HB2 := Lib.hid (hb.out.trans (hb1.mono hb.out.size)); have G2 := Lib.hid (blk_in hH.out hb1); obtain ⟨k0, k1⟩ := cells2 G2.out; have gl := lt_of G2.out; clear hb1) | (at_make; refine wpList_make_full _ rfl _ _ 42 rfl w2.heap.size 3 i0 (.int .i64 0) 1 Try.underlying42 hi hz0 hz1 _ _ _ _ ll rfl rfl rfl rfl ?b2 ?b3 ?b4 ?_))
    case b2 => rw [hz2]; omega
    case b3 => unfold maxLen; omega
    case b4 => exact Nat.le_refl _
    intro w4 hown hgrow
    have HB4 := Lib.hid ((Below.refl w2.heap.size w2).grown hgrow (Nat.le_refl _) (by simp))
    have HO4 := Lib.hid (show w4.ownsRow w2.heap.size 3 1 (.slice (some ⟨w2.heap.size, 0, none⟩) ll ll) ll (vals (fillL (uniK n c) ll 0)) by rw [fillL_zero, ← toList_madeCells_one]; exact hown)
    have G4 := Lib.hid (blk_in G2.out HB4.out)
    clear hgrow hown hi hz0 hz1 hz2 k0 k1 gl
    obtain ⟨k0, k1⟩ := cells2 G4.out
    have gl := lt_of G4.out
    go_wp2_with fail
    clear k0 k1 gl
    go_loopw [26] (fun i wr => ∃ k : Nat, k ≤ ll ∧ i = .int .i64 k ∧ Hid (wr.ownsRow w2.heap.size 3 1 (.slice (some ⟨w2.heap.size, 0, none⟩) ll ll) ll (vals (fillL (uniK n c) ll k))) ∧ Hid (Below w2.heap.size w2 wr)) (fun i _ => ll - (intOf i).toNat)
    case atStart => exact ⟨0, Nat.zero_le _, rfl, HO4, HB4⟩
    case round =>
      clear HO4 HB4
      obtain ⟨k, hk, rfl, HO, HB⟩ := hrel
      by_cases hlt : k < ll
      case neg =>
        have HF := Lib.hid (show wr.ownsRow w2.heap.size 3 1 (.slice (some ⟨w2.heap.size, 0, none⟩) ll ll) ll (vals R) by rw [HE.out, ← NL.out, ← fillL_all]; have := HO.out; rwa [show k = ll by omega] at this)
        have HLR := Lib.hid (show R.length = ll by rw [HE.out, ← NL.out]; simp)
        go_wp2_with fail
        go_ret
        exact ⟨_, rfl, ⟨(show wr.ownsRow _ 3 1 _ R.length (vals R) by rw [HLR.out]; exact row_mono HF.out HB2.out.size), fun q e => (World.ownsRow.lt HF.out q e).2⟩, HB2.out.trans (HB.out.mono HB2.out.size)⟩
      have z1 := HO.out.frozenAt k
      obtain ⟨y1, cc1⟩ : ∃ y, wr.cell? ⟨w2.heap.size, k, none⟩ = some y := by rw [HO.out.cellAt k (by omega), List.getElem?_eq_getElem (by rw [HO.out.1]; omega)]; exact ⟨_, rfl⟩
      have g1 : w2.heap.size < wr.heap.size := (World.ownsRow.lt HO.out _ rfl).2
      obtain ⟨x, hx⟩ : ∃ x, n.links[k]? = some x := ⟨_, List.getElem?_eq_getElem (by rw [← NL.out]; exact hlt)⟩
      obtain ⟨gb, off, tv, rfl, hbk, e0, e1, e2, e3, e4, hcs⟩ := (HL.out.below (HB2.out.trans (HB.out.mono HB2.out.size))).atb hx
      have HU := Lib.hid (show uniK n c k = uniO c x by unfold uniK; rw [getD_at hx])
      clear hx
      obtain ⟨xf, xo, xt, xi, pc⟩ := x
      simp only [] at e0 e1 e2 e3 e4 hcs
      have hpl := hcs.len
      obtain ⟨ta, tc, rfl⟩ := hcs.shape
      obtain ⟨ul, hul⟩ : ∃ z, z = pc.length := ⟨_, rfl⟩
      replace HU := Lib.hid (show uniK n c k = if c < (ul : Int) then (ul : Int) else c by rw [HU.out, hul]; rfl)
      rw [← hul] at e4 hpl
      clear hcs hul
      have ST := Lib.hid (fillL_step (f := uniK n c) hlt)
      rcases Int.lt_trichotomy c (ul : Int) with h | h | h
      case' inl => (have HV := Lib.hid (HU.out.trans (if_pos h)))
      case' inr.inl => (have HV := Lib.hid (HU.out.trans (if_neg (show ¬ c < (ul : Int) by omega))); subst h)
      case' inr.inr => (have HV := Lib.hid (HU.out.trans (if_neg (show ¬ c < (ul : Int) by omega))))
      all_goals
        rw [HV.out] at ST
        go_wp2_with fail
        go_roundw
        case rel => exact ⟨k + 1, by omega, by go_num, Lib.hid (by rw [← ST.out]; exact row_below (HO.out.stored k _).1 ((Below.refl _ _).al _)), Lib.hid ((HB.out.setCell (Nat.le_refl _) _).al _)⟩
        case measure => simp [intOf]; omega

set_option maxRecDepth 100000 in
set_option maxHeartbeats 8000000 in
theorem suni_any (v : Value) (n : Net) (c : Int) (w : World) (h : NetV w v n) :
    Calls Try.prog 24 #[v, .int .i64 c] w fun e w' => ∃ r, e = .returned r ∧ OwnH w.heap.size w'.heap.size w' r (uniformCapacitiesR0 n c) ∧ Below w.heap.size w w' := by
  have CN := Lib.hid (fun (W : World) (hw : Below w.heap.size w W) => sisnet_any v n W (h.below hw))
  obtain ⟨pv, lv, rfl, hp, hl⟩ := h
  have LL := hl.len
  have HL := Lib.hid hl
  obtain ⟨la, lcap, rfl⟩ := hl.shape
  obtain ⟨pa, pcap, rfl⟩ := hp.shape
  obtain ⟨m, hm⟩ : ∃ m, m = n.progs.length := ⟨_, rfl⟩
  obtain ⟨ll, hll⟩ : ∃ m, m = n.links.length := ⟨_, rfl⟩
  rw [← hm, ← hll] at CN ⊢
  rw [← hll] at HL LL
  have NL := Lib.hid hll
  clear hp hl hm hll
  obtain ⟨R, hR⟩ : ∃ R, R = uniformCapacitiesR0 n c := ⟨_, rfl⟩
  have HRR := Lib.hid hR
  rw [← hR]
  clear hR
  have hb := Lib.hid ((Below.refl w.heap.size w).al (.cells #[.slice pa m pcap, .slice la ll lcap] 35))
  have hH := Lib.hid (hp1 w (.cells #[.slice pa m pcap, .slice la ll lcap] 35))
  obtain ⟨i0, hi, hz0, hz1, hz2⟩ := info_parts info
  cases ho : okN n with
  | false =>
    rw [ho] at CN
    have HE := Lib.hid (HRR.out.trans (uni_no (by unfold uniB; rw [ho]; rfl)))
    clear ho
    obtain rfl := HE.out
    go_enter Try.func24, Try.ntmps24
    go_wp2_with (go_at_call 53; with_reducible refine (CN.out _ hb.out).mono ?_; rintro e w2 ⟨rfl, hb1⟩; have HB2 := Lib.hid (hb.out.trans (hb1.mono hb.out.size)); have G2 := Lib.hid (blk_in hH.out hb1); obtain ⟨k0, k1⟩ := cells2 G2.out; have gl := lt_of G2.out; clear hb1)
    go_ret
    exact ⟨_, rfl, ⟨own_nil _ _, fun q e => by simp [Value.ownBlock] at e⟩, HB2.out⟩
  | true =>
    rw [ho] at CN
    have HOK := Lib.hid ho
    clear ho
    have CI0 := fun (W : World) => sin_any c 0 400 W
    by_cases c2 : 0 ≤ c ∧ c ≤ 400
    case neg =>
      have CI := Lib.hid (fun (W : World) => (show Calls Try.prog 67 #[.int .i64 c, .int .i64 0, .int .i64 400] W fun e w' => e = .returned (.bool false) ∧ W = w' by have q := CI0 W; rw [show inB 0 400 c = false from decide_eq_false c2] at q; exact q))
      have HE := Lib.hid (HRR.out.trans (uni_no (by unfold uniB; rw [HOK.out, decide_eq_false c2]; rfl)))
      obtain rfl := HE.out
      clear c2 CI0
      go_enter Try.func24, Try.ntmps24
      go_wp2_with (first | (go_at_call 67; with_reducible refine (CI.out _).mono ?_; rintro e w3 ⟨rfl, rfl⟩) | (go_at_call 53; with_reducible refine (CN.out _ hb.out).mono ?_; rintro e w2 ⟨rfl, hb1⟩; have HB2 := Lib.hid (hb.out.trans (hb1.mono hb.out.size)); have G2 := Lib.hid (blk_in hH.out hb1); obtain ⟨k0, k1⟩ := cells2 G2.out; have gl := lt_of G2.out; clear hb1))
      go_ret
      exact ⟨_, rfl, ⟨own_nil _ _, fun q e => by simp [Value.ownBlock] at e⟩, HB2.out⟩
    have CI := Lib.hid (fun (W : World) => (show Calls Try.prog 67 #[.int .i64 c, .int .i64 0, .int .i64 400] W fun e w' => e = .returned (.bool true) ∧ W = w' by have q := CI0 W; rw [show inB 0 400 c = true from decide_eq_true c2] at q; exact q))
    have c1 : ¬ c < 0 := by omega
    replace c2 : c ≤ 400 := c2.2
    clear CI0
    have HE := Lib.hid (HRR.out.trans (uni_yes (by unfold uniB; rw [HOK.out, decide_eq_true (show 0 ≤ c ∧ c ≤ 400 by omega)]; rfl)))
    have hll30 : ll ≤ 30 := by rw [NL.out]; exact (okN_len HOK.out).2.1
    have HC := Lib.hid (show 0 ≤ c ∧ c ≤ 400 by omega)
    clear c1 c2
    go_enter Try.func24, Try.ntmps24
    go_wp2_with (first | (go_at_call 67; with_reducible refine (CI.out _).mono ?_; rintro e w3 ⟨rfl, rfl⟩) | (go_at_call 53; with_reducible refine (CN.out _ hb.out).mono ?_; rintro e w2 ⟨rfl, hb1⟩; have HB2 := Lib.hid (hb.out.trans (hb1.mono hb.out.size)); have G2 := Lib.hid (blk_in hH.out hb1); obtain ⟨k0, k1⟩ := cells2 G2.out; have gl := lt_of G2.out; clear hb1))
    clear k0 k1 gl
    go_loopw [5, 20] (fun b i wr => ∃ k : Nat, k ≤ ll ∧ i = .int .i64 k ∧ Hid (Own w2.heap.size wr b ((List.range k).map (uniK n c))) ∧ Hid (Below w2.heap.size w2 wr)) (fun _ i _ => ll - (intOf i).toNat)
    case atStart => exact ⟨0, Nat.zero_le _, rfl, Lib.hid (show Own w2.heap.size _ _ [] from lit0 w2), Lib.hid ((Below.refl _ _).al _)⟩
    case round =>
      obtain ⟨k, hk, rfl, HO, HB⟩ := hrel
      by_cases hlt : k < ll
      case neg =>
        have HF := Lib.hid (show (List.range k).map (uniK n c) = R by rw [HE.out, ← NL.out, show k = ll by omega])
        go_wp2_with fail
        go_ret
        exact ⟨_, rfl, by rw [← HF.out]; exact ⟨HO.out.mono HB2.out.size, fun q e => (HO.out.lt q e).2⟩, HB2.out.trans (HB.out.mono HB2.out.size)⟩
      obtain ⟨x, hx⟩ : ∃ x, n.links[k]? = some x := ⟨_, List.getElem?_eq_getElem (by rw [← NL.out]; exact hlt)⟩
      obtain ⟨gb, off, tv, rfl, hbk, e0, e1, e2, e3, e4, hcs⟩ := (HL.out.below (HB2.out.trans (HB.out.mono HB2.out.size))).atb hx
      have HU := Lib.hid (show uniK n c k = uniO c x by unfold uniK; rw [getD_at hx])
      clear hx
      obtain ⟨xf, xo, xt, xi, pc⟩ := x
      simp only [] at e0 e1 e2 e3 e4 hcs
      have hpl := hcs.len
      obtain ⟨ta, tc, rfl⟩ := hcs.shape
      obtain ⟨ul, hul⟩ : ∃ z, z = pc.length := ⟨_, rfl⟩
      replace HU := Lib.hid (show uniK n c k = if c < (ul : Int) then (ul : Int) else c by rw [HU.out, hul]; rfl)
      rw [← hul] at e4 hpl
      clear hcs hul
      go_upto_region 7 with fail
      generalize hW : wr.alloc (.cells #[.int .i64 xf, .int .i64 xo, .int .i64 xt, .int .i64 xi, .slice ta ul tc] 86) = W
      have HBL := Lib.hid (show Below wr.heap.size wr W by rw [← hW]; exact (Below.refl _ _).al _)
      have HB4 := Lib.hid (HB.out.trans (HBL.out.mono HB.out.size))
      have HL4 := Lib.hid (HO.out.below HBL.out)
      have hs4 := HB4.out.size
      obtain ⟨q0, q1, q2, q3, q4⟩ := cells5 (show W.heap[wr.heap.size]? = _ by rw [← hW]; exact hp1 _ _)
      have ql := lt_of (show W.heap[wr.heap.size]? = _ by rw [← hW]; exact hp1 _ _)
      clear hW
      rcases Int.lt_trichotomy c (ul : Int) with h | h | h
      case' inl => (have HV := Lib.hid (HU.out.trans (if_pos h)))
      case' inr.inl => (have HV := Lib.hid (HU.out.trans (if_neg (show ¬ c < (ul : Int) by omega))); subst h)
      case' inr.inr => (have HV := Lib.hid (HU.out.trans (if_neg (show ¬ c < (ul : Int) by omega))))
      all_goals
        go_wp2_with (at_builtin; refine wpList_append_own_at _ rfl _ _ 42 rfl w2.heap.size 3 i0 (.int .i64 0) 1 8 Try.underlying42 hi hz0 hz1 hz2 rfl (by decide) _ _ _ rfl (World.ownsRow.alloc HL4.out _) ⟨W.heap.size, 0, none⟩ 1 1 [.int .i64 _] rfl rfl (one_src _ _) (one_one _) ?c3 ?c4 ?c5 ?_)
        case c3 => unfold maxLen; simp; omega
        case c4 => simp; omega
        case c5 => simp; omega
        intro v' w5 hown hgrow _ hat
        have HR2 := Lib.hid (app_rel HB4.out hs4 (Nat.le_refl _) HL4.out (by rw [List.length_map, List.length_range]; exact hown) hgrow)
        clear hown hgrow hat
        go_wp2_with fail
        go_roundw
        case rel => exact ⟨k + 1, by omega, by go_num, Lib.hid (by rw [range_snoc, HV.out]; exact HR2.out.1), Lib.hid HR2.out.2⟩
        case measure => simp [intOf]; omega

theorem iuni_w (v : Value) (n : Net) (c : Int) (w : World) (h : NetV w v n) (_ : (Lit.int .i64 c).wf = true) :
    Calls Try.prog 25 #[v, .int .i64 c] w fun e w' => ∃ r, e = .returned r ∧ OwnH w.heap.size w'.heap.size w' r (uniformCapacitiesR0 n c) ∧ Below w.heap.size w w' := iuni_any v n c w h
theorem suni_w (v : Value) (n : Net) (c : Int) (w : World) (h : NetV w v n) (_ : (Lit.int .i64 c).wf = true) :
    Calls Try.prog 24 #[v, .int .i64 c] w fun e w' => ∃ r, e = .returned r ∧ OwnH w.heap.size w'.heap.size w' r (uniformCapacitiesR0 n c) ∧ Below w.heap.size w w' := suni_any v n c w h
end Go.Proofs.Ytmfagmfclehdbaa
