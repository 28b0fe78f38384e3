/-
  What the two functions that copy a slice of ints leave. No statement of the seat is proved here.
  Which link is at a port. No statement of the seat is proved here.
-/
import Derived.Test.YtkeoefbkeommhaaBas
import Derived.Test.YtkeoefbkeommhaaNetA
namespace Go.Proofs.Ytkeoefbkeommhaa
open Go.RowKit

set_option maxHeartbeats 400000 in
theorem copyOf_any (v : Value) (xs : List Int) (w : World) (h : Sl w v xs) (hs : xs.length ≤ 4000000) :
    Calls Try.prog 119 #[v] w fun e w' => ∃ v', e = .returned v' ∧ Own w.heap.size w' v' xs ∧ Below w.heap.size w w' := by
  have HS := Lib.hid h
  obtain ⟨a, cap, rfl, hl, hm, hn, hc⟩ := h
  clear hm hn hl hc
  obtain ⟨i0, hi, hz0, hz1, hz2⟩ := info_parts info
  go_enter Try.func119, Try.ntmps119
  go_wp2_with (at_make; refine wpList_make_full _ rfl _ _ 26 rfl w.heap.size 3 i0 (.int .i64 0) 1 Try.underlying26 hi hz0 hz1 _ _ _ _ xs.length rfl rfl rfl rfl ?b2 ?b3 ?b4 ?_)
  case b2 => rw [hz2]; omega
  case b3 => unfold maxLen; omega
  case b4 => exact Nat.le_refl _
  intro w1 hown hgrow
  have hb := (Below.refl w.heap.size w).grown hgrow (Nat.le_refl _) (by simp)
  have HO := Lib.hid (own_heap hown)
  have HZ := Lib.hid hown.1
  clear hgrow hi hz0 hz1 hz2 hown
  obtain ⟨Z, hZ⟩ : ∃ Z, Z = (madeCells #[Value.int IntKind.i64 0] xs.length).toList := ⟨_, rfl⟩
  obtain ⟨C, hC⟩ : ∃ C, C = vals xs := ⟨_, rfl⟩
  rw [← hZ] at HO HZ
  have HC := Lib.hid hC
  clear hZ hC
  go_wp2_with (with_reducible refine wpList_copy_splice rfl (.tmp 7) (.tmp 8) 26 26 rfl 3 Try.underlying26 size1 (some ⟨w.heap.size, 0, none⟩) a xs.length xs.length xs.length cap rfl rfl w.heap.size 0 Z 3 HO.out C ?c1 ?c2 ?c3 ?c4 w.heap.size w hb (Nat.le_refl _) ?_)
  case c1 => rw [HC.out, vals_len]; exact (Nat.min_self _).symm
  case c2 =>
    intro hp
    have H := HS.out.below hb
    cases a with
    | none =>
      obtain ⟨a', c, hv, h1, h2, h3, hc⟩ := HS.out
      simp only [Value.slice.injEq, true_and] at hv
      obtain ⟨rfl, rfl⟩ := hv
      have := h3 rfl
      rw [HC.out, vals_len] at hp
      omega
    | some ad => first | exact ⟨ad, rfl, by rw [HC.out]; exact H.src.2⟩ | exact ⟨rfl, ad, rfl, by rw [HC.out]; exact H.src.2⟩
  case c3 => have := HZ.out; rw [HC.out, vals_len]; omega
  case c4 => rw [HC.out]; exact vals_one xs
  intro w2 HG hb2
  go_wp2_with fail
  go_ret
  refine ⟨_, rfl, ?_, hb2⟩
  have := HG.out
  rw [splice_all (by rw [HC.out, vals_len]; have := HZ.out; omega), HC.out] at this
  exact heap_own this (vals_len xs) (Nat.le_refl _) (by unfold maxLen; omega)

set_option maxHeartbeats 400000 in
theorem l1copy_any (v : Value) (xs : List Int) (w : World) (h : Sl w v xs) (hs : xs.length ≤ 4000000) :
    Calls Try.prog 124 #[v] w fun e w' => ∃ v', e = .returned v' ∧ Own w.heap.size w' v' xs ∧ Below w.heap.size w w' := by
  have HS := Lib.hid h
  obtain ⟨a, cap, rfl, hl, hm, hn, hc⟩ := h
  clear hm hc
  obtain ⟨i0, hi, hz0, hz1, hz2⟩ := info_parts info
  have hb := (Below.refl w.heap.size w).alloc (Nat.le_refl _) (.cells #[] 3)
  have h0 := lit0 w
  cases a with
  | none =>
    obtain rfl : cap = 0 := hn rfl
    obtain rfl : xs = [] := List.eq_nil_of_length_eq_zero (by omega)
    clear hn hl
    go_enter Try.func124, Try.ntmps124
    go_wp2_with (at_builtin; refine wpList_append_own_none rfl _ _ 26 rfl w.heap.size 3 i0 1 Try.underlying26 hi _ _ _ rfl h0 rfl ?_)
    go_ret
    exact ⟨_, rfl, h0, hb⟩
  | some ad =>
    have hsrc := Lib.hid (HS.out.below (hb.mono (Nat.le_refl _))).src.2
    clear hn hl
    go_enter Try.func124, Try.ntmps124
    go_wp2_with (at_builtin; refine wpList_append_own _ rfl _ _ 26 rfl w.heap.size 3 i0 (.int .i64 0) 1 8 Try.underlying26 hi hz0 hz1 hz2 rfl (by decide) _ _ _ rfl h0 ad xs.length cap (vals xs) rfl ?c0 hsrc.out (vals_one xs) ?c3 ?c4 ?c5 ?_)
    case c0 => rw [vals_len, Nat.mul_one]
    case c3 => unfold maxLen; omega
    case c4 => omega
    case c5 => simp
    intro v' w1 hown hgrow _
    have HO := Lib.hid hown
    have hb2 := hb.grown hgrow (by simp) (fun k e => by simp [Value.ownBlock] at e; omega)
    clear hown hgrow hi hz0 hz1 hz2
    go_wp2_with fail
    go_ret
    exact ⟨_, rfl, HO.out, hb2⟩

/-- Whether a link of a valid network has this end, which is no outside. -/
def linkOk (g : Lnk → End) (n : Net) (e : End) : Bool := okN n && !(decide (e = outE)) && decide (e ∈ n.links.map g)
def linkIx (g : Lnk → End) (n : Net) (e : End) : Int := if linkOk g n e then ((n.links.map g).idxOf e : Int) else 0
def linkToR0 (n : Net) (p j : Int) : Int := linkIx Lnk.tgt n (p, j)
def linkToR1 (n : Net) (p j : Int) : Bool := linkOk Lnk.tgt n (p, j)
def linkFromR0 (n : Net) (p j : Int) : Int := linkIx Lnk.src n (p, j)
def linkFromR1 (n : Net) (p j : Int) : Bool := linkOk Lnk.src n (p, j)
theorem linkOk_bad {g : Lnk → End} {n : Net} {e : End} (h : okN n = false) : linkOk g n e = false := by unfold linkOk; rw [h]; rfl
theorem linkOk_out {g : Lnk → End} {n : Net} {e : End} (h : e = outE) : linkOk g n e = false := by unfold linkOk; rw [decide_eq_true h]; simp
theorem linkOk_not {g : Lnk → End} {n : Net} {e : End} (h : e ∉ n.links.map g) : linkOk g n e = false := by unfold linkOk; rw [decide_eq_false h]; simp
theorem linkOk_yes {g : Lnk → End} {n : Net} {e : End} (h : okN n = true) (h1 : e ≠ outE) (h2 : e ∈ n.links.map g) : linkOk g n e = true := by unfold linkOk; rw [h, decide_eq_false h1, decide_eq_true h2]; rfl
theorem linkIx_no {g : Lnk → End} {n : Net} {e : End} (h : linkOk g n e = false) : linkIx g n e = 0 := by unfold linkIx; rw [h]; rfl
theorem linkIx_yes {g : Lnk → End} {n : Net} {e : End} (h : linkOk g n e = true) : linkIx g n e = ((n.links.map g).idxOf e : Int) := by unfold linkIx; rw [h]; rfl
theorem atE_one {g : Lnk → End} {ls : List Lnk} {e : End} (h : (ls.map g).count e = 1) : atE g ls e = ((ls.map g).idxOf e : Int) := by
  unfold atE numE
  rw [if_neg (by omega), if_pos h]
theorem port_to {n : Net} (ho : okN n = true) {e : End} (he : e ∈ ports Prg.ins n.progs) : linkOk Lnk.tgt n e = true ∧ atE Lnk.tgt n.links e = ((n.links.map Lnk.tgt).idxOf e : Int) := by
  obtain ⟨_, _, _, h4⟩ := (okN_iff n).1 ho
  have hc := h4 e he
  exact ⟨linkOk_yes ho (fun q => out_ports (by rw [← q]; exact he)) (List.count_pos_iff.1 (by omega)), atE_one hc⟩
theorem port_from {n : Net} (ho : okN n = true) {e : End} (he : e ∈ ports Prg.outs n.progs) : linkOk Lnk.src n e = true ∧ atE Lnk.src n.links e = ((n.links.map Lnk.src).idxOf e : Int) := by
  obtain ⟨_, _, h3, _⟩ := (okN_iff n).1 ho
  have hc := h3 e he
  exact ⟨linkOk_yes ho (fun q => out_ports (by rw [← q]; exact he)) (List.count_pos_iff.1 (by omega)), atE_one hc⟩
theorem noport_to {n : Net} (ho : okN n = true) {e : End} (he : e ∉ ports Prg.ins n.progs) : linkOk Lnk.tgt n e = false := by
  obtain ⟨_, h2, _, _⟩ := (okN_iff n).1 ho
  by_cases q : e = outE
  · exact linkOk_out q
  · refine linkOk_not (fun hm => ?_)
    obtain ⟨l, hl, rfl⟩ := List.mem_map.1 hm
    rcases (h2 l hl).2.2 with h | h
    · exact q h
    · exact he h
theorem noport_from {n : Net} (ho : okN n = true) {e : End} (he : e ∉ ports Prg.outs n.progs) : linkOk Lnk.src n e = false := by
  obtain ⟨_, h2, _, _⟩ := (okN_iff n).1 ho
  by_cases q : e = outE
  · exact linkOk_out q
  · refine linkOk_not (fun hm => ?_)
    obtain ⟨l, hl, rfl⟩ := List.mem_map.1 hm
    rcases (h2 l hl).2.1 with h | h
    · exact q h
    · exact he h
theorem okN_len {n : Net} (h : okN n = true) : n.progs.length ≤ 12 ∧ n.links.length ≤ 30 ∧ n.progs.all okP = true := by
  have := ((okN_iff n).1 h).1
  unfold headL at this
  rw [Bool.and_eq_true] at this
  have h2 := of_decide_eq_true this.1
  exact ⟨h2.1, h2.2, this.2⟩
theorem SlP.atb {w : World} {a : Option Addr} {m cap : Nat} {ps : List Prg} (h : SlP w (.slice a m cap) ps) {k : Nat} {x : Prg} (hx : ps[k]? = some x) :
    ∃ b off c, a = some ⟨b, off, none⟩ ∧ b < w.heap.size ∧ w.cell? ⟨b, off + k * 3, none⟩ = some (.int .i64 x.ins) ∧ w.cell? ⟨b, off + k * 3 + 1, none⟩ = some (.int .i64 x.outs) ∧ w.cell? ⟨b, off + k * 3 + 2, none⟩ = some c ∧ SlI w c x.code := by
  obtain ⟨a', cap', hv, _, _, _, hr⟩ := h
  simp only [Value.slice.injEq] at hv
  obtain ⟨rfl, rfl, rfl⟩ := hv
  rcases hr with rfl | ⟨b, off, rfl, hb, hc⟩
  · simp at hx
  · obtain ⟨c, h0, h1, h2, h3⟩ := hc k x hx
    exact ⟨b, off, c, rfl, hb, h0, h1, h2, h3⟩
theorem SlL.atb {w : World} {a : Option Addr} {m cap : Nat} {ls : List Lnk} (h : SlL w (.slice a m cap) ls) {k : Nat} {x : Lnk} (hx : ls[k]? = some x) :
    ∃ b off c, a = some ⟨b, off, none⟩ ∧ b < w.heap.size ∧ w.cell? ⟨b, off + k * 5, none⟩ = some (.int .i64 x.frm) ∧ w.cell? ⟨b, off + k * 5 + 1, none⟩ = some (.int .i64 x.out) ∧ w.cell? ⟨b, off + k * 5 + 2, none⟩ = some (.int .i64 x.to) ∧ w.cell? ⟨b, off + k * 5 + 3, none⟩ = some (.int .i64 x.inn) ∧ w.cell? ⟨b, off + k * 5 + 4, none⟩ = some c ∧ Sl w c x.tok := by
  obtain ⟨a', cap', hv, _, _, _, hr⟩ := h
  simp only [Value.slice.injEq] at hv
  obtain ⟨rfl, rfl, rfl⟩ := hv
  rcases hr with rfl | ⟨b, off, rfl, hb, hc⟩
  · simp at hx
  · obtain ⟨c, h0, h1, h2, h3, h4, _, h5⟩ := hc k x hx
    exact ⟨b, off, c, rfl, hb, h0, h1, h2, h3, h4, h5⟩
end Go.Proofs.Ytkeoefbkeommhaa
