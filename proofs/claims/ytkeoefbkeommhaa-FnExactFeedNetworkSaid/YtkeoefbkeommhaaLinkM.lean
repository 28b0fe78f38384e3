/-
  Which link is at a port. No statement of the seat is proved here.
-/
import Derived.Test.YtkeoefbkeommhaaNetA
namespace Go.Proofs.Ytkeoefbkeommhaa
open Go.RowKit

/-- Whether a link of a valid network has this end, which is no outside. -/
def linkOk (g : Lnk → End) (n : Net) (e : End) : Bool := okN n && !(decide (e = outE)) && decide (e ∈ n.links.map g)
def linkIx (g : Lnk → End) (n : Net) (e : End) : Int := if linkOk g n e then ((n.links.map g).idxOf e : Int) else 0
def linkToR0 (n : Net) (p j : Int) : Int := linkIx Lnk.tgt n (p, j)
def linkToR1 (n : Net) (p j : Int) : Bool := linkOk Lnk.tgt n (p, j)
def linkFromR0 (n : Net) (p j : Int) : Int := linkIx Lnk.src n (p, j)
def linkFromR1 (n : Net) (p j : Int) : Bool := linkOk Lnk.src n (p, j)
theorem linkOk_bad {g : Lnk → End} {n : Net} {e : End} (h : okN n = false) : linkOk g n e = false := by unfold linkOk; rw [h]; rfl
theorem linkOk_out {g : Lnk → End} {n : Net} {e : End} (h : e = outE) : linkOk g n e = false := by unfold linkOk; rw [decide_eq_true h]; simp
theorem linkOk_not {g : Lnk → End} {n : Net} {e : End} (h : e ∉ n.links.map g) : linkOk g n e = false := by unfold linkOk; rw [decide_eq_false h]; simp
theorem linkOk_yes {g : Lnk → End} {n : Net} {e : End} (h : okN n = true) (h1 : e ≠ outE) (h2 : e ∈ n.links.map g) : linkOk g n e = true := by unfold linkOk; rw [h, decide_eq_false h1, decide_eq_true h2]; rfl
theorem linkIx_no {g : Lnk → End} {n : Net} {e : End} (h : linkOk g n e = false) : linkIx g n e = 0 := by unfold linkIx; rw [h]; rfl
theorem linkIx_yes {g : Lnk → End} {n : Net} {e : End} (h : linkOk g n e = true) : linkIx g n e = ((n.links.map g).idxOf e : Int) := by unfold linkIx; rw [h]; rfl
theorem atE_one {g : Lnk → End} {ls : List Lnk} {e : End} (h : (ls.map g).count e = 1) : atE g ls e = ((ls.map g).idxOf e : Int) := by
  unfold atE numE
  rw [if_neg (by omega), if_pos h]
theorem port_to {n : Net} (ho : okN n = true) {e : End} (he : e ∈ ports Prg.ins n.progs) : linkOk Lnk.tgt n e = true ∧ atE Lnk.tgt n.links e = ((n.links.map Lnk.tgt).idxOf e : Int) := by
  obtain ⟨_, _, _, h4⟩ := (okN_iff n).1 ho
  have hc := h4 e he
  exact ⟨linkOk_yes ho (fun q => out_ports (by rw [← q]; exact he)) (List.count_pos_iff.1 (by omega)), atE_one hc⟩
theorem port_from {n : Net} (ho : okN n = true) {e : End} (he : e ∈ ports Prg.outs n.progs) : linkOk Lnk.src n e = true ∧ atE Lnk.src n.links e = ((n.links.map Lnk.src).idxOf e : Int) := by
  obtain ⟨_, _, h3, _⟩ := (okN_iff n).1 ho
  have hc := h3 e he
  exact ⟨linkOk_yes ho (fun q => out_ports (by rw [← q]; exact he)) (List.count_pos_iff.1 (by omega)), atE_one hc⟩
theorem noport_to {n : Net} (ho : okN n = true) {e : End} (he : e ∉ ports Prg.ins n.progs) : linkOk Lnk.tgt n e = false := by
  obtain ⟨_, h2, _, _⟩ := (okN_iff n).1 ho
  by_cases q : e = outE
  · exact linkOk_out q
  · refine linkOk_not (fun hm => ?_)
    obtain ⟨l, hl, rfl⟩ := List.mem_map.1 hm
    rcases (h2 l hl).2.2 with h | h
    · exact q h
    · exact he h
theorem noport_from {n : Net} (ho : okN n = true) {e : End} (he : e ∉ ports Prg.outs n.progs) : linkOk Lnk.src n e = false := by
  obtain ⟨_, h2, _, _⟩ := (okN_iff n).1 ho
  by_cases q : e = outE
  · exact linkOk_out q
  · refine linkOk_not (fun hm => ?_)
    obtain ⟨l, hl, rfl⟩ := List.mem_map.1 hm
    rcases (h2 l hl).2.1 with h | h
    · exact q h
    · exact he h
theorem okN_len {n : Net} (h : okN n = true) : n.progs.length ≤ 12 ∧ n.links.length ≤ 30 ∧ n.progs.all okP = true := by
  have := ((okN_iff n).1 h).1
  unfold headL at this
  rw [Bool.and_eq_true] at this
  have h2 := of_decide_eq_true this.1
  exact ⟨h2.1, h2.2, this.2⟩
theorem SlP.atb {w : World} {a : Option Addr} {m cap : Nat} {ps : List Prg} (h : SlP w (.slice a m cap) ps) {k : Nat} {x : Prg} (hx : ps[k]? = some x) :
    ∃ b off c, a = some ⟨b, off, none⟩ ∧ b < w.heap.size ∧ w.cell? ⟨b, off + k * 3, none⟩ = some (.int .i64 x.ins) ∧ w.cell? ⟨b, off + k * 3 + 1, none⟩ = some (.int .i64 x.outs) ∧ w.cell? ⟨b, off + k * 3 + 2, none⟩ = some c ∧ SlI w c x.code := by
  obtain ⟨a', cap', hv, _, _, _, hr⟩ := h
  simp only [Value.slice.injEq] at hv
  obtain ⟨rfl, rfl, rfl⟩ := hv
  rcases hr with rfl | ⟨b, off, rfl, hb, hc⟩
  · simp at hx
  · obtain ⟨c, h0, h1, h2, h3⟩ := hc k x hx
    exact ⟨b, off, c, rfl, hb, h0, h1, h2, h3⟩
theorem SlL.atb {w : World} {a : Option Addr} {m cap : Nat} {ls : List Lnk} (h : SlL w (.slice a m cap) ls) {k : Nat} {x : Lnk} (hx : ls[k]? = some x) :
    ∃ b off c, a = some ⟨b, off, none⟩ ∧ b < w.heap.size ∧ w.cell? ⟨b, off + k * 5, none⟩ = some (.int .i64 x.frm) ∧ w.cell? ⟨b, off + k * 5 + 1, none⟩ = some (.int .i64 x.out) ∧ w.cell? ⟨b, off + k * 5 + 2, none⟩ = some (.int .i64 x.to) ∧ w.cell? ⟨b, off + k * 5 + 3, none⟩ = some (.int .i64 x.inn) ∧ w.cell? ⟨b, off + k * 5 + 4, none⟩ = some c ∧ Sl w c x.tok := by
  obtain ⟨a', cap', hv, _, _, _, hr⟩ := h
  simp only [Value.slice.injEq] at hv
  obtain ⟨rfl, rfl, rfl⟩ := hv
  rcases hr with rfl | ⟨b, off, rfl, hb, hc⟩
  · simp at hx
  · obtain ⟨c, h0, h1, h2, h3, h4, _, h5⟩ := hc k x hx
    exact ⟨b, off, c, rfl, hb, h0, h1, h2, h3, h4, h5⟩
end Go.Proofs.Ytkeoefbkeommhaa
