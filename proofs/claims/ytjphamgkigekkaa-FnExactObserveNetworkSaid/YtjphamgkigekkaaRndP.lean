/-
  A round of a network as data. No statement of the seat is proved here.
  What the program's ranWith leaves: a process that was run with histories. No statement of the seat is proved here.
  What the program's settledWith leaves: the processes that have settled, or nothing. No statement of the seat is proved here.
  What the program's madeOf leaves: the streams that a round makes. No statement of the seat is proved here.
  What the program's RoundOf answers. No statement of the seat is proved here.
-/
import Derived.Test.YtjphamgkigekkaaRunAB
import Derived.Test.YtjphamgkigekkaaHist
import Derived.Test.YtjphamgkigekkaaLinkM
import Derived.Test.YtjphamgkigekkaaAppend
import Derived.Deep.Cut
import Derived.Deep.CutRange
import Derived.Deep.RegionHeld3
import Derived.BigRegion
import Derived.BigQuiet
import Derived.Outline
import Derived.Defers
import Derived.Recover
import Derived.Stop.Asserts
import Derived.Deep.AppendLies
import Derived.Deep.RegionLaw
namespace Go.Proofs.Ytjphamgkigekkaa
open Go.RowKit

def prgN : Prg := ⟨0, 0, []⟩
def prgK (n : Net) (k : Nat) : Prg := n.progs.getD k prgN
def ixT (n : Net) (k j : Nat) : Nat := (n.links.map Lnk.tgt).idxOf ((k : Int), (j : Int))
def inpL (n : Net) (h : List (List Int)) (k : Nat) : List (List Int) := (List.range (prgK n k).ins.toNat).map fun j => h.getD (ixT n k j) []
def runL (n : Net) (h : List (List Int)) (k : Nat) : St × Int := runS (prgK n k).code (inpL n h k) 3000 (startS (prgK n k).ins.toNat (prgK n k).outs.toNat)
def settL (n : Net) (h : List (List Int)) (k : Nat) : Bool := decide ((runL n h k).2 = 0 ∨ (runL n h k).2 = 2)
def outsL (n : Net) (h : List (List Int)) (k : Nat) : List (List Int) := (runL n h k).1.outs
def portL (n : Net) (h : List (List Int)) (k : Nat) : Int := portR (prgK n k).code (runL n h k)
def waitL (n : Net) (h : List (List Int)) (k : Nat) : Int := if (runL n h k).2 = 2 then (ixT n k (portL n h k).toNat : Int) else -1
def writL (n : Net) (h : List (List Int)) (l : Lnk) : List Int := if l.src = outE then [] else (outsL n h l.frm.toNat).getD l.out.toNat []
def madeL (n : Net) (h : List (List Int)) (l : Lnk) : List Int := l.tok ++ writL n h l
def upN (p : Nat → Bool) (k : Nat) : Bool := (List.range k).all p
theorem upN_step {p : Nat → Bool} {k : Nat} (ha : upN p k = true) (hp : p k = true) : upN p (k + 1) = true := by
  unfold upN at *
  rw [List.all_eq_true] at *
  intro i hi
  rcases Nat.lt_or_ge i k with q | q
  · exact ha i (List.mem_range.2 q)
  · obtain rfl : i = k := by have := List.mem_range.1 hi; omega
    exact hp
theorem upN_no {p : Nat → Bool} {k m : Nat} (hk : k < m) (hp : p k = false) : upN p m = false := by
  unfold upN
  rw [List.all_eq_false]
  exact ⟨k, List.mem_range.2 hk, by rw [hp]; decide⟩
theorem upN_at {p : Nat → Bool} {k m : Nat} (h : upN p m = true) (hk : k < m) : p k = true := by
  unfold upN at h
  exact List.all_eq_true.1 h k (List.mem_range.2 hk)
theorem getD_some {α : Type} {l : List α} {k : Nat} {x d : α} (h : l[k]? = some x) : l.getD k d = x := by rw [List.getD_eq_getElem?_getD, h]; rfl
def okR (n : Net) (h : List (List Int)) : Bool := upN (settL n h) n.progs.length && n.links.all fun l => isS (madeL n h l)
def roundL (n : Net) (h : List (List Int)) : List (List Int) := n.links.map (madeL n h)
def roundOfR1 (n : Net) (h : List (List Int)) : Bool := areHistoriesR0 n h && okR n h
def roundOfR0 (n : Net) (h : List (List Int)) : List (List Int) := if roundOfR1 n h then roundL n h else []

/-- Histories of a valid network. -/
structure GoodH (n : Net) (h : List (List Int)) : Prop where
  ok : okN n = true
  len : h.length = n.links.length
  all : ∀ xs ∈ h, isS xs = true
theorem hist_good {n : Net} {h : List (List Int)} (hh : areHistoriesR0 n h = true) : GoodH n h := by
  unfold areHistoriesR0 at hh
  rw [Bool.and_eq_true] at hh
  obtain ⟨a, b⟩ := areS_parts hh.2
  exact ⟨hh.1, by omega, b⟩
theorem good_hist {n : Net} {h : List (List Int)} (g : GoodH n h) : areHistoriesR0 n h = true := by
  unfold areHistoriesR0 areS
  rw [g.ok, List.all_eq_true.2 g.all, decide_eq_true (by rw [g.len])]
  rfl
theorem count_one {α : Type} [BEq α] [LawfulBEq α] {l : List α} {e : α} (hc : l.count e = 1) {i j : Nat} (hi : l[i]? = some e) (hj : l[j]? = some e) : i = j := by
  have key : ∀ i j : Nat, i < j → l[i]? = some e → l[j]? = some e → False := by
    intro i j hij hi hj
    have h1 : e ∈ l.take (i + 1) := List.mem_of_getElem? (i := i) (by rw [List.getElem?_take, if_pos (by omega)]; exact hi)
    have h2 : e ∈ l.drop (i + 1) := List.mem_of_getElem? (i := j - (i + 1)) (by rw [List.getElem?_drop, show i + 1 + (j - (i + 1)) = j by omega]; exact hj)
    have h3 := List.count_pos_iff.2 h1
    have h4 := List.count_pos_iff.2 h2
    have h5 : l.count e = (l.take (i + 1)).count e + (l.drop (i + 1)).count e := by rw [← List.count_append, List.take_append_drop]
    omega
  rcases Nat.lt_trichotomy i j with q | q | q
  · exact (key i j q hi hj).elim
  · exact q
  · exact (key j i q hj hi).elim
/-- The link that leads to a port. -/
theorem ix_at {n : Net} (ho : okN n = true) {k j : Nat} {p : Prg} (hp : n.progs[k]? = some p) (hj : (j : Int) < p.ins) :
    (∃ x, n.links[ixT n k j]? = some x ∧ x.tgt = ((k : Int), (j : Int))) ∧ ixT n k j < n.links.length ∧ (∀ i x, n.links[i]? = some x → x.tgt = ((k : Int), (j : Int)) → i = ixT n k j) ∧ atE Lnk.tgt n.links ((k : Int), (j : Int)) = (ixT n k j : Int) := by
  have hc := ((okN_iff n).1 ho).2.2.2 ((k : Int), (j : Int)) (mem_ports.2 ⟨k, p, hp, rfl, by simp only []; omega, hj⟩)
  have hm : ((k : Int), (j : Int)) ∈ n.links.map Lnk.tgt := List.count_pos_iff.1 (by omega)
  have hlt := List.idxOf_lt_length_of_mem hm
  have hat : (n.links.map Lnk.tgt)[ixT n k j]? = some ((k : Int), (j : Int)) := by
    unfold ixT
    rw [List.getElem?_eq_getElem hlt, List.getElem_idxOf]
  have hlt2 : ixT n k j < n.links.length := by rw [List.length_map] at hlt; exact hlt
  refine ⟨?_, hlt2, fun i x hx e => ?_, atE_one hc⟩
  · rw [List.getElem?_map] at hat
    obtain ⟨x, hx, e⟩ := Option.map_eq_some_iff.1 hat
    exact ⟨x, hx, e⟩
  · exact count_one hc (by rw [List.getElem?_map, hx]; simp [e]) hat
theorem prgK_at {n : Net} {k : Nat} {p : Prg} (hp : n.progs[k]? = some p) : prgK n k = p := getD_some hp
theorem GoodH.prg {n : Net} {h : List (List Int)} (g : GoodH n h) {k : Nat} (hk : k < n.progs.length) : n.progs[k]? = some (prgK n k) ∧ okP (prgK n k) = true := by
  have hp : n.progs[k]? = some n.progs[k] := List.getElem?_eq_getElem hk
  have e := prgK_at hp
  rw [e]
  exact ⟨hp, all_get (okN_len g.ok).2.2 hp⟩
theorem GoodH.inp {n : Net} {h : List (List Int)} (g : GoodH n h) (k : Nat) : ∀ xs ∈ inpL n h k, isS xs = true := by
  intro xs hx
  unfold inpL at hx
  obtain ⟨j, _, rfl⟩ := List.mem_map.1 hx
  rcases Nat.lt_or_ge (ixT n k j) h.length with q | q
  · rw [List.getD_eq_getElem?_getD, List.getElem?_eq_getElem q]
    exact g.all _ (List.getElem_mem q)
  · rw [List.getD_eq_getElem?_getD, List.getElem?_eq_none q]
    decide
theorem inpL_len {n : Net} (h : List (List Int)) (k : Nat) : (inpL n h k).length = (prgK n k).ins.toNat := by unfold inpL; simp
theorem GoodH.areS {n : Net} {h : List (List Int)} (g : GoodH n h) (k : Nat) : areS (inpL n h k) ((prgK n k).ins.toNat : Int) = true := by
  unfold Go.Proofs.Ytjphamgkigekkaa.areS
  rw [inpL_len, List.all_eq_true.2 (g.inp k)]
  simp
theorem prg_eta {p : Prg} (h : okP p = true) : p = ⟨(p.ins.toNat : Int), (p.outs.toNat : Int), p.code⟩ := by
  have := (okP_parts h).1
  obtain ⟨a, b, c⟩ := p
  simp only [] at this ⊢
  rw [Int.toNat_of_nonneg (by omega), Int.toNat_of_nonneg (by omega)]
theorem GoodH.run {n : Net} {h : List (List Int)} (g : GoodH n h) {k : Nat} (hk : k < n.progs.length) : GoodS (prgK n k) (inpL n h k) (runL n h k).1 := by
  have hp := (g.prg hk).2
  have st := start_good (ni := (prgK n k).ins.toNat) (no := (prgK n k).outs.toNat) (code := (prgK n k).code) (inp := inpL n h k) (by rw [← prg_eta hp]; exact hp)
  rw [← prg_eta hp] at st
  exact runS_good hp (g.inp k) 3000 _ st
theorem wantN_in (code : List Ins) (k : Nat) : wantC code k = 0 ∨ wantC code k = 1 ∨ wantC code k = 2 ∨ wantC code k = 3 := by
  unfold wantC
  cases code[k]? with
  | none => exact .inl rfl
  | some x =>
    show wantI x = 0 ∨ wantI x = 1 ∨ wantI x = 2 ∨ wantI x = 3
    unfold wantI
    split
    · exact .inl rfl
    · split
      · exact .inr (.inr (.inl rfl))
      · split
        · exact .inr (.inr (.inr rfl))
        · exact .inr (.inl rfl)
theorem why_in {code : List Ins} {inp : List (List Int)} : ∀ (n : Nat) (st : St), (runS code inp n st).2 = 0 ∨ (runS code inp n st).2 = 1 ∨ (runS code inp n st).2 = 2 ∨ (runS code inp n st).2 = 3
  | 0, st => by
    have e : (runS code inp 0 st).2 = (if stuckS code inp st = true then wantC code st.pc else 1) := rfl
    rw [e]
    split
    · exact wantN_in code st.pc
    · exact .inr (.inl rfl)
  | n + 1, st => by
    unfold runS
    by_cases q : stuckS code inp st = true
    · rw [if_pos q]; exact wantN_in code st.pc
    · rw [if_neg q]; exact why_in n _
/-- Where a run ends because it wants something, its place says so. -/
theorem why_want {code : List Ins} {inp : List (List Int)} : ∀ (n : Nat) (st : St), (runS code inp n st).2 = 2 → wantC code (runS code inp n st).1.pc = 2
  | 0, st => by
    unfold runS
    show (if stuckS code inp st = true then wantC code st.pc else 1) = 2 → wantC code st.pc = 2
    by_cases q : stuckS code inp st = true
    · rw [if_pos q]; exact id
    · rw [if_neg q]; intro e; cases e
  | n + 1, st => by
    unfold runS
    by_cases q : stuckS code inp st = true
    · rw [if_pos q]; exact id
    · rw [if_neg q]; exact why_want n _
theorem want_port {p : Prg} (ho : okP p = true) {k : Nat} (hw : wantC p.code k = 2) : 0 ≤ portC p.code k ∧ portC p.code k < p.ins := by
  unfold wantC at hw
  unfold portC
  cases hx : p.code[k]? with
  | none => rw [hx] at hw; exact absurd hw (by show ¬ (0 : Int) = 2; decide)
  | some x =>
    rw [hx] at hw
    have hb := of_decide_eq_true ((okP_parts ho).2 x (List.mem_of_getElem? hx))
    have h1 : x.op = 1 := by
      change wantI x = 2 at hw
      unfold wantI at hw
      by_cases q : x.op = 1
      · exact q
      · rw [if_neg q] at hw; split at hw
        · cases hw
        · split at hw <;> cases hw
    show 0 ≤ portI x ∧ portI x < p.ins
    unfold portI
    rw [if_pos h1]
    omega
/-- A run that waits: for which port. -/
theorem GoodH.wait {n : Net} {h : List (List Int)} (g : GoodH n h) {k : Nat} (hk : k < n.progs.length) (hw : (runL n h k).2 = 2) :
    ∃ j : Nat, portL n h k = (j : Int) ∧ (j : Int) < (prgK n k).ins ∧ waitL n h k = (ixT n k j : Int) := by
  have h1 : 0 ≤ portC (prgK n k).code (runL n h k).1.pc ∧ portC (prgK n k).code (runL n h k).1.pc < (prgK n k).ins := want_port (g.prg hk).2 (why_want 3000 _ hw)
  have e : portL n h k = portC (prgK n k).code (runL n h k).1.pc := by unfold portL portR; rw [if_neg (by rw [hw]; decide)]
  refine ⟨(portL n h k).toNat, ?_, ?_, ?_⟩
  · have := h1.1; rw [← e] at this; omega
  · have h2 := h1.2; have h3 := h1.1; rw [← e] at h2 h3; omega
  · unfold waitL; rw [if_pos hw]
/-- What a link gets of the process that it comes from. -/
theorem GoodH.from {n : Net} {h : List (List Int)} (g : GoodH n h) {l : Lnk} (hl : l ∈ n.links) (hs : ¬ l.src = outE) :
    ∃ i o : Nat, l.frm = (i : Int) ∧ l.out = (o : Int) ∧ i < n.progs.length ∧ (outsL n h i)[o]? = some (writL n h l) ∧ isS (writL n h l) = true := by
  obtain ⟨_, h2, _, _⟩ := (okN_iff n).1 g.ok
  rcases (h2 l hl).2.1 with e | e
  · exact absurd e hs
  · obtain ⟨i, p, hp, e1, e2, e3⟩ := mem_ports.1 e
    have f1 : l.frm = (i : Int) := e1
    have f2 : 0 ≤ l.out ∧ l.out < p.outs := ⟨e2, e3⟩
    have hi := (List.getElem?_eq_some_iff.1 hp).1
    have G := g.run hi
    rw [prgK_at hp] at G
    have hlt : l.out.toNat < (outsL n h i).length := by have := G.outsN; unfold outsL; omega
    have hat : (outsL n h i)[l.out.toNat]? = some ((outsL n h i)[l.out.toNat]) := List.getElem?_eq_getElem hlt
    have hw : writL n h l = (outsL n h i)[l.out.toNat] := by unfold writL; rw [if_neg hs, f1, Int.toNat_natCast]; exact getD_some hat
    refine ⟨i, l.out.toNat, f1, by omega, hi, by rw [hw]; exact hat, ?_⟩
    rw [hw]
    exact G.outs _ _ hat
theorem GoodH.tok {n : Net} {h : List (List Int)} (g : GoodH n h) {l : Lnk} (hl : l ∈ n.links) : isS l.tok = true := by
  have := (((okN_iff n).1 g.ok).2.1 l hl).1
  unfold linkL at this
  rw [Bool.and_eq_true] at this
  exact this.1
theorem GoodH.writ {n : Net} {h : List (List Int)} (g : GoodH n h) {l : Lnk} (hl : l ∈ n.links) : isS (writL n h l) = true := by
  by_cases hs : l.src = outE
  · unfold writL; rw [if_pos hs]; decide
  · obtain ⟨_, _, _, _, _, _, e⟩ := g.from hl hs; exact e
theorem okR_all {n : Net} {h : List (List Int)} (ho : okR n h = true) : (∀ k, k < n.progs.length → settL n h k = true) ∧ ∀ l ∈ n.links, isS (madeL n h l) = true := by
  unfold okR at ho
  rw [Bool.and_eq_true] at ho
  exact ⟨fun k hk => upN_at ho.1 hk, List.all_eq_true.1 ho.2⟩
theorem roundL_good {n : Net} {h : List (List Int)} (g : GoodH n h) (ho : okR n h = true) : GoodH n (roundL n h) :=
  ⟨g.ok, by unfold roundL; simp, fun xs hx => by unfold roundL at hx; obtain ⟨l, hl, rfl⟩ := List.mem_map.1 hx; exact (okR_all ho).2 l hl⟩
theorem good_bd {n : Net} {h : List (List Int)} (g : GoodH n h) : h.length ≤ 30 ∧ sumT h ≤ 12000 ∧ sumR h ≤ 12030 := by
  have h1 := g.len
  have h2 := (okN_len g.ok).2.1
  have h3 := sumT_le (c := 400) h (fun xs hx => isS_len (g.all xs hx))
  have h4 := sumT_R h
  have h5 : 400 * h.length ≤ 12000 := by omega
  exact ⟨by omega, by omega, by omega⟩
theorem roundOf_bd (n : Net) (h : List (List Int)) : (roundOfR0 n h).length ≤ 30 ∧ sumT (roundOfR0 n h) ≤ 12000 ∧ sumR (roundOfR0 n h) ≤ 12030 := by
  unfold roundOfR0
  cases e : roundOfR1 n h with
  | false => simp [sumT, sumR]
  | true =>
    unfold roundOfR1 at e
    rw [Bool.and_eq_true] at e
    rw [if_pos rfl]
    exact good_bd (roundL_good (hist_good e.1) e.2)

def procV (ov : Value) (n : Net) (h : List (List Int)) (k : Nat) : Value :=
  if (runL n h k).2 = 0 then .iface 171 (.agg #[ov]) else if (runL n h k).2 = 2 then .iface 173 (.agg #[ov, .int .i64 (waitL n h k)]) else .iface 174 (.agg #[ov])
/-- 'x' is the process k that was run with the histories h; what it wrote lies in blocks from lo on. -/
def PV (lo : Nat) (w : World) (x : Value) (n : Net) (h : List (List Int)) (k : Nat) : Prop :=
  ∃ ov uv, OutO lo w ov uv (outsL n h k) (runL n h k).1.used ∧ x = procV ov n h k
theorem slR_shape {w : World} {v : Value} {xss : List (List Int)} (h : SlR w v xss) : ∃ a c, v = .slice a xss.length c := by
  obtain ⟨a, c, h, _⟩ := h; exact ⟨a, c, h⟩
theorem slR_len {w : World} {v : Value} {xs : List (List Int)} (h : SlR w v xs) : xs.length ≤ 9223372036854775807 := by
  obtain ⟨_, _, _, h1, h2, _⟩ := h; unfold maxLen at h2; omega
/-- The headers of a slice of slices, by index. -/
theorem slR_hv {w : World} {a : Option Addr} {m cap : Nat} {xss : List (List Int)} (h : SlR w (.slice a m cap) xss) :
    ∃ (hb ho : Nat) (hv : Nat → Value), ∀ q x, xss[q]? = some x → a = some ⟨hb, ho, none⟩ ∧ hb < w.heap.size ∧ w.cell? ⟨hb, ho + q, none⟩ = some (hv q) ∧ Sl w (hv q) x := by
  obtain ⟨a', cap', e, _, _, _, hr⟩ := h
  simp only [Value.slice.injEq] at e
  obtain ⟨rfl, rfl, rfl⟩ := e
  rcases hr with rfl | ⟨b, off, rfl, hb, hc⟩
  · exact ⟨0, 0, fun _ => .slice none 0 0, fun q x hx => by simp at hx⟩
  · refine ⟨b, off, fun q => (w.cell? ⟨b, off + q, none⟩).getD (.slice none 0 0), fun q x hx => ?_⟩
    obtain ⟨u, h1, h2⟩ := hc q x hx
    simp only [h1, Option.getD_some]
    exact ⟨trivial, hb, trivial, h2⟩
def fillA (f : Nat → Value) (z : Value) (ix : Nat → Nat) (ni i : Nat) : List Value := (List.range ni).map fun j => if ix j < i then f (ix j) else z
theorem fillA_len (f : Nat → Value) (z : Value) (ix : Nat → Nat) (ni i : Nat) : (fillA f z ix ni i).length = ni := by unfold fillA; simp
theorem fillA_at {f : Nat → Value} {z : Value} {ix : Nat → Nat} {ni i j : Nat} (hj : j < ni) : (fillA f z ix ni i)[j]? = some (if ix j < i then f (ix j) else z) := by
  unfold fillA
  rw [List.getElem?_map, List.getElem?_range hj]; rfl
theorem fillA_zero (f : Nat → Value) (z : Value) (ix : Nat → Nat) (ni : Nat) : fillA f z ix ni 0 = List.replicate ni z := by
  apply List.ext_getElem?
  intro j
  by_cases hj : j < ni
  · rw [fillA_at hj, if_neg (by omega), List.getElem?_replicate, if_pos hj]
  · rw [List.getElem?_eq_none (by rw [fillA_len]; omega), List.getElem?_eq_none (by simp; omega)]
theorem fillA_miss {f : Nat → Value} {z : Value} {ix : Nat → Nat} {ni i : Nat} (h : ∀ j, j < ni → ix j ≠ i) : fillA f z ix ni (i + 1) = fillA f z ix ni i := by
  apply List.ext_getElem?
  intro j
  by_cases hj : j < ni
  · rw [fillA_at hj, fillA_at hj]
    have := h j hj
    by_cases q : ix j < i
    · rw [if_pos q, if_pos (by omega)]
    · rw [if_neg q, if_neg (by omega)]
  · rw [List.getElem?_eq_none (by rw [fillA_len]; omega), List.getElem?_eq_none (by rw [fillA_len]; omega)]
theorem fillA_hit {f : Nat → Value} {z : Value} {ix : Nat → Nat} {ni i j : Nat} (hj : j < ni) (he : ix j = i) (h : ∀ j', j' < ni → j' ≠ j → ix j' ≠ i) : (fillA f z ix ni i).set j (f i) = fillA f z ix ni (i + 1) := by
  apply List.ext_getElem?
  intro q
  rw [List.getElem?_set]
  by_cases hq : q < ni
  · rw [fillA_at hq, fillA_at hq]
    by_cases e : j = q
    · subst e
      rw [if_pos rfl, if_pos (by rw [fillA_len]; exact hj), he, if_pos (by omega)]
    · rw [if_neg e]
      have := h q hq (fun x => e x.symm)
      by_cases z : ix q < i
      · rw [if_pos z, if_pos (by omega)]
      · rw [if_neg z, if_neg (by omega)]
  · rw [List.getElem?_eq_none (by rw [fillA_len]; omega), List.getElem?_eq_none (by rw [fillA_len]; omega), if_neg (by omega)]
theorem set_row {w : World} {g T j : Nat} {L : List Value} (h : w.heap[g]? = some (.cells L.toArray T)) (v : Value) : (w.setCell ⟨g, j, none⟩ v).heap[g]? = some (.cells (L.set j v).toArray T) := by
  rw [heap_setCell_same w g j L.toArray T v h]
  simp
theorem row_cell {w : World} {g T j : Nat} {L : List Value} {v : Value} (h : w.heap[g]? = some (.cells L.toArray T)) (hv : L[j]? = some v) : w.cell? ⟨g, j, none⟩ = some v := by
  rw [cell_of h j]; simpa using hv

set_option maxRecDepth 100000 in
set_option maxHeartbeats 8000000 in
theorem iran_any (v u : Value) (n : Net) (h : List (List Int)) (k : Nat) (w : World) (hv : NetV w v n) (hu : SlR w u h) (g : GoodH n h) (hk : k < n.progs.length) :
    Calls Try.prog 134 #[v, .int .i64 (k : Int), u] w fun e w' => ∃ x, e = .returned x ∧ PV w.heap.size w' x n h k ∧ Below w.heap.size w w' := by
  obtain ⟨hp, hoP⟩ := g.prg hk
  have heta := prg_eta hoP
  have hP := (okP_parts hoP).1
  obtain ⟨pv, lv, rfl, hps, hls⟩ := hv
  have HL := Lib.hid hls
  have HU := Lib.hid hu
  have LP := hps.len
  have LL := hls.len
  have LH := slR_len hu
  obtain ⟨pa, pcap, rfl⟩ := hps.shape
  obtain ⟨la, lcap, rfl⟩ := hls.shape
  obtain ⟨ha, hcap, rfl⟩ := slR_shape hu
  obtain ⟨gb, go, c, hpa, hgb, k0, k1, k2, ks⟩ := hps.atb hp
  subst hpa
  obtain ⟨hb0, ho0, hvf, hvs⟩ := slR_hv hu
  have HVS := Lib.hid hvs
  obtain ⟨ni, hni⟩ : ∃ z : Nat, z = (prgK n k).ins.toNat := ⟨_, rfl⟩
  obtain ⟨no, hno⟩ : ∃ z : Nat, z = (prgK n k).outs.toNat := ⟨_, rfl⟩
  obtain ⟨code, hcode⟩ : ∃ z, z = (prgK n k).code := ⟨_, rfl⟩
  rw [show (prgK n k).ins = (ni : Int) by rw [hni]; omega] at k0
  rw [show (prgK n k).outs = (no : Int) by rw [hno]; omega] at k1
  have hni3 : ni ≤ 3 := by omega
  have HEQ := Lib.hid (show prgK n k = ⟨(ni : Int), (no : Int), code⟩ by rw [hni, hno, hcode]; exact heta)
  have HOP := Lib.hid (show okP ⟨(ni : Int), (no : Int), code⟩ = true by rw [← HEQ.out]; exact hoP)
  have HAS := Lib.hid (show areS (inpL n h k) (ni : Int) = true by rw [hni]; exact g.areS k)
  have HRL := Lib.hid (show runL n h k = runS code (inpL n h k) 3000 (startS ni no) by unfold runL; rw [← hcode, ← hni, ← hno])
  have HIN := Lib.hid (show inpL n h k = (List.range ni).map fun j => h.getD (ixT n k j) [] by unfold inpL; rw [← hni])
  have G := Lib.hid g
  have HIX := Lib.hid (show ∀ j, j < ni → (∃ x, n.links[ixT n k j]? = some x ∧ x.tgt = ((k : Int), (j : Int))) ∧ ixT n k j < n.links.length ∧ ∀ i x, n.links[i]? = some x → x.tgt = ((k : Int), (j : Int)) → i = ixT n k j from fun j hj => by
    obtain ⟨a, b, c, _⟩ := ix_at g.ok hp (show (j : Int) < (prgK n k).ins by rw [HEQ.out]; show (j : Int) < (ni : Int); omega)
    exact ⟨a, b, c⟩)
  have HTO := Lib.hid (show ∀ l ∈ n.links, l.to = (k : Int) → ∃ j : Nat, l.inn = (j : Int) ∧ j < ni from fun l hl e => by
    obtain ⟨_, h2, _, _⟩ := (okN_iff n).1 g.ok
    rcases (h2 l hl).2.2 with q | q
    · have : l.to = -1 := congrArg Prod.fst q
      omega
    · obtain ⟨i, p, hpi, e1, e2, e3⟩ := mem_ports.1 q
      have f1 : l.to = (i : Int) := e1
      obtain rfl : i = k := by omega
      rw [hp] at hpi
      obtain rfl := Option.some.inj hpi
      have f2 : 0 ≤ l.inn := e2
      have f3 : l.inn < (prgK n i).ins := e3
      rw [HEQ.out] at f3
      exact ⟨l.inn.toNat, by omega, by simp only [] at f3; omega⟩)
  have HWT := Lib.hid (show (runL n h k).2 = 2 → ∃ j : Nat, portL n h k = (j : Int) ∧ j < ni ∧ waitL n h k = (ixT n k j : Int) from fun e => by
    obtain ⟨j, a, b, c⟩ := g.wait hk e
    rw [HEQ.out] at b
    exact ⟨j, a, by simp only [] at b; omega, c⟩)
  have HPL := Lib.hid (show portL n h k = portR code (runL n h k) by unfold portL; rw [← hcode])
  rw [← hcode] at ks
  obtain ⟨ua, uc, rfl⟩ := ks.shape
  have KS := Lib.hid ks
  have CA := Lib.hid (fun (W : World) (iv : Value) (hw : Below w.heap.size w W) (hiv : SlR W iv (inpL n h k)) => ialone_good (.agg #[.int .i64 (ni : Int), .int .i64 (no : Int), .slice ua code.length uc]) iv ni no code (inpL n h k) 3000 W ⟨_, rfl, KS.out.below hw⟩ hiv HOP.out HAS.out (Nat.le_refl _))
  rw [← HRL.out, ← HPL.out, show ((3000 : Nat) : Int) = 3000 from rfl] at CA
  obtain ⟨pl, hpl⟩ : ∃ z, z = n.progs.length := ⟨_, rfl⟩
  obtain ⟨ll, hll⟩ : ∃ z, z = n.links.length := ⟨_, rfl⟩
  obtain ⟨hl, hhl⟩ : ∃ z, z = h.length := ⟨_, rfl⟩
  obtain ⟨ul, hul⟩ : ∃ z, z = code.length := ⟨_, rfl⟩
  have HLE := Lib.hid (show hl = ll by rw [hhl, hll]; exact g.len)
  rw [← hpl] at hk LP ⊢
  rw [← hll] at HL LL ⊢
  rw [← hhl] at HU LH ⊢
  rw [← hul] at k2 CA
  have NL := Lib.hid hll
  have NH := Lib.hid hhl
  have M1 := fun (W : World) => mkI ni hni3 W
  have M2 := fun (W : World) => mkS ni hni3 W
  clear hp hoP heta hP hps hls hu hvs hni hno hcode ks g hpl hll hhl hul
  go_enter Try.func134, Try.ntmps134
  go_wp2_with fail
  have a1 := Lib.hid (al_keep (o := (.cells (Array.replicate ni (Value.slice none 0 0)) 46)) (al_keep (o := (.cells (Array.replicate ni (Value.int .i64 0)) 3)) (hp2 w (.cells #[.slice (some ⟨gb, go, none⟩) pl pcap, .slice la ll lcap] 34) (.cells #[.int .i64 (ni : Int), .int .i64 (no : Int), .slice ua ul uc] 86))))
  have a2 := Lib.hid (al_keep (o := (.cells (Array.replicate ni (Value.slice none 0 0)) 46)) (hp3 w (.cells #[.slice (some ⟨gb, go, none⟩) pl pcap, .slice la ll lcap] 34) (.cells #[.int .i64 (ni : Int), .int .i64 (no : Int), .slice ua ul uc] 86) (.cells (Array.replicate ni (Value.int .i64 0)) 3)))
  have a3 := Lib.hid (al_at (w := ((w.alloc (.cells #[.slice (some ⟨gb, go, none⟩) pl pcap, .slice la ll lcap] 34)).alloc (.cells #[.int .i64 (ni : Int), .int .i64 (no : Int), .slice ua ul uc] 86)).alloc (.cells (Array.replicate ni (Value.int .i64 0)) 3)) (g := w.heap.size + 3) (.cells (Array.replicate ni (Value.slice none 0 0)) 46) (by simp))
  have hb := Lib.hid ((((Below.refl w.heap.size w).al (.cells #[.slice (some ⟨gb, go, none⟩) pl pcap, .slice la ll lcap] 34)).al (.cells #[.int .i64 (ni : Int), .int .i64 (no : Int), .slice ua ul uc] 86)).al (.cells (Array.replicate ni (Value.int .i64 0)) 3))
  obtain ⟨w0, hw0⟩ : ∃ W, W = (((w.alloc (.cells #[.slice (some ⟨gb, go, none⟩) pl pcap, .slice la ll lcap] 34)).alloc (.cells #[.int .i64 (ni : Int), .int .i64 (no : Int), .slice ua ul uc] 86)).alloc (.cells (Array.replicate ni (Value.int .i64 0)) 3)).alloc (.cells (Array.replicate ni (Value.slice none 0 0)) 46) := ⟨_, rfl⟩
  have HB0 := Lib.hid (show Below w.heap.size w w0 by rw [hw0]; exact hb.out.al (.cells (Array.replicate ni (Value.slice none 0 0)) 46))
  have A1 := Lib.hid (show w0.heap[w.heap.size + 1]? = some (.cells #[.int .i64 (ni : Int), .int .i64 (no : Int), .slice ua ul uc] 86) by rw [hw0]; exact a1.out)
  have A2 := Lib.hid (show w0.heap[w.heap.size + 1 + 1]? = some (.cells (fillA (fun q => .int .i64 (q : Int)) (.int .i64 0) (ixT n k) ni 0).toArray 3) by rw [hw0, fillA_zero, List.toArray_replicate]; exact a2.out)
  have A3 := Lib.hid (show w0.heap[w.heap.size + 1 + 1 + 1]? = some (.cells (fillA hvf (.slice none 0 0) (ixT n k) ni 0).toArray 46) by rw [hw0, fillA_zero, List.toArray_replicate]; exact a3.out)
  rw [← hw0]
  clear hw0 a1 a2 a3 hb M1 M2
  go_loopw [27] (fun i wr => ∃ q : Nat, q ≤ ll ∧ i = .int .i64 q ∧ Hid (wr.heap[w.heap.size + 1]? = some (.cells #[.int .i64 (ni : Int), .int .i64 (no : Int), .slice ua ul uc] 86)) ∧ Hid (wr.heap[w.heap.size + 1 + 1]? = some (.cells (fillA (fun q => .int .i64 (q : Int)) (.int .i64 0) (ixT n k) ni q).toArray 3)) ∧ Hid (wr.heap[w.heap.size + 1 + 1 + 1]? = some (.cells (fillA hvf (.slice none 0 0) (ixT n k) ni q).toArray 46)) ∧ Hid (Below w.heap.size w wr)) (fun i _ => ll - (intOf i).toNat)
  case atStart => exact ⟨0, Nat.zero_le _, rfl, A1, A2, A3, HB0⟩
  case round =>
    clear HB0 A1 A2 A3
    obtain ⟨q, hq, rfl, A1, A2, A3, HB⟩ := hrel
    by_cases hlt : q < ll
    case pos =>
      obtain ⟨x, hx⟩ : ∃ x, n.links[q]? = some x := ⟨_, List.getElem?_eq_getElem (by rw [← NL.out]; exact hlt)⟩
      obtain ⟨y, hy⟩ : ∃ y, h[q]? = some y := ⟨_, List.getElem?_eq_getElem (by rw [← NH.out, HLE.out]; exact hlt)⟩
      obtain ⟨hha, hhb, hc0, hs0⟩ := HVS.out q y hy
      subst hha
      obtain ⟨lb, lo, d, hla, hlb, e0, e1, e2, e3, e4, es⟩ := (HL.out.below HB.out).atb hx
      subst hla
      obtain ⟨va, vc, rfl⟩ := es.shape
      obtain ⟨vl, hvl⟩ : ∃ z, z = x.tok.length := ⟨_, rfl⟩
      rw [← hvl] at e4
      have c0 := (HB.out.cell (p := ⟨hb0, ho0 + q, none⟩) hhb).trans hc0
      have hhb2 : hb0 < wr.heap.size := Nat.lt_of_lt_of_le hhb HB.out.size
      have hqh : q < hl := by have := HLE.out; omega
      obtain ⟨ya, yc, hye⟩ := hs0.shape
      obtain ⟨yl, hyl⟩ : ∃ z, z = y.length := ⟨_, rfl⟩
      rw [← hyl] at hye
      rw [hye] at c0
      have HYE := Lib.hid hye
      have HX := Lib.hid hx
      have XM := Lib.hid (List.mem_of_getElem? hx)
      clear hx hy es hvl hc0 hs0 hyl hye
      have MISS := Lib.hid (show x.to ≠ (k : Int) → ∀ j, j < ni → ixT n k j ≠ q from fun hne j hj e => by
        obtain ⟨⟨x', h1, h2⟩, _, _⟩ := HIX.out j hj
        rw [e, HX.out] at h1
        obtain rfl := Option.some.inj h1
        exact hne (congrArg Prod.fst h2))
      have HIT := Lib.hid (show x.to = (k : Int) → ∃ j : Nat, x.inn = (j : Int) ∧ j < ni ∧ ixT n k j = q ∧ ∀ j', j' < ni → j' ≠ j → ixT n k j' ≠ q from fun he => by
        obtain ⟨j, j1, j2⟩ := HTO.out x XM.out he
        have ht : x.tgt = ((k : Int), (j : Int)) := by unfold Lnk.tgt; rw [he, j1]
        refine ⟨j, j1, j2, ((HIX.out j j2).2.2 q x HX.out ht).symm, fun j' hj' hne e => ?_⟩
        obtain ⟨⟨x', h1, h2⟩, _, _⟩ := HIX.out j' hj'
        rw [e, HX.out] at h1
        obtain rfl := Option.some.inj h1
        rw [ht] at h2
        have h3 : (j : Int) = (j' : Int) := congrArg Prod.snd h2
        omega)
      obtain ⟨xf, xo, xt, xi, xk⟩ := x
      simp only [] at e0 e1 e2 e3 e4 MISS HIT
      have HBW := Lib.hid ((Below.refl wr.heap.size wr).al (.cells #[.int .i64 xf, .int .i64 xo, .int .i64 xt, .int .i64 xi, .slice va vl vc] 82))
      have g1 := lt_of A1.out
      have g2 := lt_of A2.out
      have g3 := lt_of A3.out
      by_cases ht : xt = (k : Int)
      case neg =>
        have d1 : (xt == (k : Int)) = false := by simpa using ht
        have MI := Lib.hid (MISS.out ht)
        go_wp2_with fail
        go_roundw
        case rel =>
          refine ⟨q + 1, by omega, by go_num, Lib.hid (blk_in A1.out HBW.out), Lib.hid ?_, Lib.hid ?_, Lib.hid (HB.out.trans (HBW.out.mono HB.out.size))⟩
          · rw [fillA_miss MI.out]; exact blk_in A2.out HBW.out
          · rw [fillA_miss MI.out]; exact blk_in A3.out HBW.out
        case measure => simp [intOf]; omega
      obtain ⟨j, hj1, hj2, hj3, hj4⟩ := HIT.out ht
      subst hj1
      subst ht
      have F2 := Lib.hid (fillA_hit (f := fun q => Value.int .i64 (q : Int)) (z := .int .i64 0) hj2 hj3 hj4)
      have F3 := Lib.hid (fillA_hit (f := hvf) (z := .slice none 0 0) hj2 hj3 hj4)
      rw [HYE.out] at F3
      clear hj3 hj4
      go_upto_region 8 with fail
      obtain ⟨W, hW⟩ : ∃ W, W = wr.alloc (.cells #[.int .i64 xf, .int .i64 xo, .int .i64 (k : Int), .int .i64 (j : Int), .slice va vl vc] 82) := ⟨_, rfl⟩
      have KW := Lib.hid (show Below wr.heap.size wr W by rw [hW]; exact HBW.out)
      have KX := Lib.hid (show W.heap[wr.heap.size]? = some (.cells #[.int .i64 xf, .int .i64 xo, .int .i64 (k : Int), .int .i64 (j : Int), .slice va vl vc] 82) by rw [hW]; exact hp1 _ _)
      rw [← hW]
      clear hW HBW e0 e1 e2 e3 e4 g1 g2 g3
      have B1 := Lib.hid (blk_in A1.out KW.out)
      have B2 := Lib.hid (blk_in A2.out KW.out)
      have B3 := Lib.hid (blk_in A3.out KW.out)
      replace c0 := (KW.out.cell (p := ⟨hb0, ho0 + q, none⟩) hhb2).trans c0
      replace hhb2 : hb0 < W.heap.size := Nat.lt_of_lt_of_le hhb2 KW.out.size
      obtain ⟨x0, x1, x2, x3, x4⟩ := cells5 KX.out
      have xl := lt_of KX.out
      have r2 := row_cell B2.out (fillA_at hj2)
      have r3 := row_cell B3.out (fillA_at hj2)
      have z2 := fr_of B2.out j
      have z3 := fr_of B3.out j
      have l2 := lt_of B2.out
      have l3 := lt_of B3.out
      go_region
      all_goals
        go_wp2_with fail
        go_roundw
        case rel =>
          have hb9 := HB.out.trans (KW.out.mono HB.out.size)
          refine ⟨q + 1, by omega, by go_num, Lib.hid ?_, Lib.hid ?_, Lib.hid ?_, Lib.hid ?_⟩
          · first | exact setR_blkN (setR_blkN B1.out (by omega) _) (by omega) _ | exact B1.out
          · rw [← F2.out]
            first | exact setR_blkN (set_row B2.out _) (by omega) _ | exact set_row (setR_blkN B2.out (by omega) _) _
          · rw [← F3.out]
            first | exact set_row (setR_blkN B3.out (by omega) _) _ | exact setR_blkN (set_row B3.out _) (by omega) _
          · first | exact ((hb9.setCell (by dsimp only; omega) _).setCell (by dsimp only; omega) _) | exact ((hb9.setCell (by dsimp only; omega) _).setCell (by dsimp only; omega) _).drew
        case measure => simp [intOf]; omega
    have hqe : q = ll := by omega
    have ALL := Lib.hid (show ∀ j, j < ni → ixT n k j < q from fun j hj => by have := (HIX.out j hj).2.1; have := NL.out; omega)
    have HSL := Lib.hid (show SlR wr (.slice (some ⟨w.heap.size + 1 + 1 + 1, 0, none⟩) ni ni) (inpL n h k) by
      rw [HIN.out]
      refine ⟨_, ni, by simp, by simp, by unfold maxLen; omega, (fun e => by cases e), .inr ⟨w.heap.size + 1 + 1 + 1, 0, rfl, lt_of A3.out, fun j xs hx => ?_⟩⟩
      rw [List.getElem?_map] at hx
      obtain ⟨j', hj', rfl⟩ := Option.map_eq_some_iff.1 hx
      have hjn : j < ni := by have := (List.getElem?_eq_some_iff.1 hj').1; simpa using this
      rw [List.getElem?_range hjn] at hj'
      obtain rfl := Option.some.inj hj'
      obtain ⟨y, hy⟩ : ∃ y, h[ixT n k j]? = some y := ⟨_, List.getElem?_eq_getElem (by have := ALL.out j hjn; have := HLE.out; have := NH.out; omega)⟩
      obtain ⟨_, _, _, hs0⟩ := HVS.out _ y hy
      refine ⟨hvf (ixT n k j), ?_, ?_⟩
      · rw [Nat.zero_add]
        have := row_cell A3.out (fillA_at hjn)
        rwa [if_pos (ALL.out j hjn)] at this
      · rw [getD_some hy]; exact hs0.below HB.out)
    have CK := Lib.hid (CA.out wr _ HB.out HSL.out)
    obtain ⟨p0, p1, p2⟩ := cells3 A1.out
    have pl1 := lt_of A1.out
    obtain ⟨wy, hwy⟩ : ∃ z, z = (runL n h k).2 := ⟨_, rfl⟩
    have HWY := Lib.hid hwy
    rw [← hwy] at CK
    have WIN := Lib.hid (show wy = 0 ∨ wy = 1 ∨ wy = 2 ∨ wy = 3 by rw [hwy, HRL.out]; exact why_in 3000 _)
    obtain ⟨pt, hpt⟩ : ∃ z, z = portL n h k := ⟨_, rfl⟩
    have HPT := Lib.hid hpt
    rw [← hpt] at CK
    clear hwy hpt
    by_cases y0 : wy = 0
    · have HPV := Lib.hid (show ∀ ov, procV ov n h k = .iface 171 (.agg #[ov]) from fun ov => by unfold procV; rw [if_pos (by rw [← HWY.out]; exact y0)])
      subst y0
      go_wp2_with (go_at_call 154; refine CK.out.mono ?_; rintro e w4 ⟨ov, uv, rfl, ho, hb4⟩; have HO4 := Lib.hid ho; have HB4 := Lib.hid (HB.out.trans (hb4.mono HB.out.size)); have D2 := Lib.hid (blk_in A2.out hb4); have HBQ := Lib.hid (HB.out.size); obtain ⟨us, BB, hov, _⟩ := ho; subst hov; obtain ⟨xu, cu, rfl⟩ := outO_used HO4.out; clear hb4)
      go_ret
      exact ⟨_, rfl, ⟨_, _, outO_mono (outO_below HO4.out ((Below.refl w4.heap.size w4).al (.cells #[.slice (some ⟨BB, 0, none⟩) us.length us.length, .slice xu (runL n h k).1.used.length cu, .int .i64 0, .int .i64 pt] 167))) HBQ.out, (HPV.out _).symm⟩, HB4.out.al _⟩
    have d0 : (wy == 0) = false := by simpa using y0
    by_cases y2 : wy = 2
    · have HPV := Lib.hid (show ∀ ov, procV ov n h k = .iface 173 (.agg #[ov, .int .i64 (waitL n h k)]) from fun ov => by unfold procV; rw [if_neg (by rw [← HWY.out]; exact y0), if_pos (by rw [← HWY.out]; exact y2)])
      obtain ⟨j, j1, j2, j3⟩ := HWT.out (by rw [← HWY.out]; exact y2)
      rw [← HPT.out] at j1
      subst j1
      subst y2
      clear y0
      go_upto_region 15 with (go_at_call 154; refine CK.out.mono ?_; rintro e w4 ⟨ov, uv, rfl, ho, hb4⟩; have HO4 := Lib.hid ho; have HB4 := Lib.hid (HB.out.trans (hb4.mono HB.out.size)); have D2 := Lib.hid (blk_in A2.out hb4); have HBQ := Lib.hid (HB.out.size); obtain ⟨us, BB, hov, _⟩ := ho; subst hov; obtain ⟨xu, cu, rfl⟩ := outO_used HO4.out; clear hb4)
      obtain ⟨W, hW⟩ : ∃ W, W = w4.alloc (.cells #[.slice (some ⟨BB, 0, none⟩) us.length us.length, .slice xu (runL n h k).1.used.length cu, .int .i64 2, .int .i64 (j : Int)] 167) := ⟨_, rfl⟩
      have KW := Lib.hid (show Below w4.heap.size w4 W by rw [hW]; exact (Below.refl _ _).al _)
      have KX := Lib.hid (show W.heap[w4.heap.size]? = some (.cells #[.slice (some ⟨BB, 0, none⟩) us.length us.length, .slice xu (runL n h k).1.used.length cu, .int .i64 2, .int .i64 (j : Int)] 167) by rw [hW]; exact hp1 _ _)
      rw [← hW]
      clear hW
      obtain ⟨x0, x1, x2, x3⟩ := cells4 KX.out
      have xl := lt_of KX.out
      have E2 := Lib.hid (blk_in D2.out KW.out)
      have r2 := row_cell E2.out (fillA_at j2)
      rw [if_pos (ALL.out j j2)] at r2
      have l2 := lt_of E2.out
      go_quiet (fail)
      go_wp2_with fail
      go_ret
      refine ⟨_, rfl, ⟨_, _, outO_mono (outO_below (outO_below HO4.out KW.out) ?_) HBQ.out, ?_⟩, ?_⟩
      · exact below_drewN _ _
      · rw [HPV.out, j3]
        rfl
      · exact (HB4.out.trans (KW.out.mono HB4.out.size)).trans ((below_drewN _ _).mono (by have := HB4.out.size; have := KW.out.size; omega))
    have d2 : (wy == 2) = false := by simpa using y2
    have HPV := Lib.hid (show ∀ ov, procV ov n h k = .iface 174 (.agg #[ov]) from fun ov => by unfold procV; rw [if_neg (by rw [← HWY.out]; exact y0), if_neg (by rw [← HWY.out]; exact y2)])
    go_wp2_with (go_at_call 154; refine CK.out.mono ?_; rintro e w4 ⟨ov, uv, rfl, ho, hb4⟩; have HO4 := Lib.hid ho; have HB4 := Lib.hid (HB.out.trans (hb4.mono HB.out.size)); have D2 := Lib.hid (blk_in A2.out hb4); have HBQ := Lib.hid (HB.out.size); obtain ⟨us, BB, hov, _⟩ := ho; subst hov; obtain ⟨xu, cu, rfl⟩ := outO_used HO4.out; clear hb4)
    go_ret
    exact ⟨_, rfl, ⟨_, _, outO_mono (outO_below HO4.out ((Below.refl w4.heap.size w4).al (.cells #[.slice (some ⟨BB, 0, none⟩) us.length us.length, .slice xu (runL n h k).1.used.length cu, .int .i64 wy, .int .i64 pt] 167))) HBQ.out, (HPV.out _).symm⟩, HB4.out.al _⟩

theorem wp_open' {P : Program} {s : Code} {Q : Exit → Go.Act → World → Prop} {a : Go.Act} {w : World} (h : ∀ K' : Go.Act → World → Prop, (∀ a w, Q .normal a w → K' a w) → s.wp P (Exit.then K' Q) a w) : s.wp P Q a w := by
  refine wp_mono (h (fun a w => Q .normal a w) (fun _ _ q => q)) ?_
  intro e a' w' hq
  cases e <;> exact hq
theorem ta_has {P : Program} {w : World} {t xT asserted : TypeId} {v : Value} {want : Array (String × TypeId)} (hu : P.underlying asserted = some (.interface want)) (h : (P.info? t).map (fun i => (lacking want i.methods).isEmpty) = some true) :
    (Instr.typeAssert (.iface t v) xT asserted false).run P w = .ok (.iface t v) w := by
  obtain ⟨i, hi, hl⟩ := Option.map_eq_some_iff.1 h
  simp [Instr.typeAssert, run_underlying hu, typeInfo, hi, missingMethod_none (List.isEmpty_iff.1 hl)]
theorem under_settled : ∃ want, Try.prog.underlying 95 = some (.interface want) ∧ (Try.prog.info? 171).map (fun i => (lacking want i.methods).isEmpty) = some true ∧ (Try.prog.info? 173).map (fun i => (lacking want i.methods).isEmpty) = some true ∧ (Try.prog.info? 174).map (fun i => (lacking want i.methods).isEmpty) = some false :=
  ⟨_, Try.underlying95, by kernel_rfl, by kernel_rfl, by kernel_rfl⟩
theorem ta_halted (v : Value) (w : World) : (Instr.typeAssert (.iface 171 v) 146 95 false).run Try.prog w = .ok (.iface 171 v) w := by
  obtain ⟨want, h1, h2, _, _⟩ := under_settled
  exact ta_has h1 h2
theorem ta_waiting (v : Value) (w : World) : (Instr.typeAssert (.iface 173 v) 146 95 false).run Try.prog w = .ok (.iface 173 v) w := by
  obtain ⟨want, h1, _, h3, _⟩ := under_settled
  exact ta_has h1 h3
theorem ta_unfinished (v : Value) (w : World) : ∃ r : TypeId × Value × Obj, (Instr.typeAssert (.iface 174 v) 146 95 false).run Try.prog w = .halt (.panic (.iface r.1 r.2.1)) (w.alloc r.2.2) := by
  obtain ⟨want, h1, _, _, h4⟩ := under_settled
  obtain ⟨i, hi, hl⟩ := Option.map_eq_some_iff.1 h4
  obtain ⟨m, hm⟩ := missingMethod_some (want := want) (got := i.methods) (fun e => by rw [e] at hl; cases hl)
  simp [Instr.typeAssert, run_underlying h1, typeInfo, hi, hm, runtimePanic, goPanic, newVar, elemOf, go_sem]
  exact ⟨_, rfl⟩
theorem set_panicking (g5 g4 : Nat) (x y : Value) (u : TypeId) (pv : Value) (older : List PanicEntry) (w : World) (h4 : w.heap[g4]? = some (.cells #[x] 91)) (h5 : w.heap[g5]? = some (.cells #[y] 4)) :
    CallsD Try.prog 133 #[.pointer (some ⟨g4, 0, none⟩), .pointer (some ⟨g5, 0, none⟩)] (.panicking ({ v := .iface u pv, recovered := false } :: older)) w fun e u' w' =>
      e = .returned (.tuple #[]) ∧ u' = .panicking ({ v := .iface u pv, recovered := true } :: older) ∧ w' = (w.setCell ⟨g4, 0, none⟩ (.slice none 0 0)).setCell ⟨g5, 0, none⟩ (.bool false) := by
  have c4 : w.cell? ⟨g4, 0, none⟩ = some x := by rw [cell_of h4]; rfl
  have z4 := fr_of h4 0
  have ne : ¬ g5 = g4 := fun e => by subst e; rw [h4] at h5; simp at h5
  have ne2 : ¬ g4 = g5 := fun e => ne e.symm
  have k5 : (w.setCell ⟨g4, 0, none⟩ (.slice none 0 0)).heap[g5]? = some (.cells #[y] 4) := by rw [Below.heap_setCell _ _ _ _ ne]; exact h5
  have c5 : (w.setCell ⟨g4, 0, none⟩ (.slice none 0 0)).cell? ⟨g5, 0, none⟩ = some y := by rw [cell_of k5]; rfl
  have z5 := fr_of k5 0
  refine callsD_of_wpS Try.func133 rfl fun c₀ cs hu => ?_
  apply wpS_seq
  apply wpS_region
  simp [wpOpsS, go_sem, recoverD, hu, Try.ntmps133, Exit.thenS]
  refine wpS_cond (t := true) (by simp [Go.Act.eval, Array.replicate]) ?_
  simp only [if_true]
  apply wpS_region
  simp [wpOpsS, go_sem, c4, z4, c5, z5, bodyPostS, results, Try.results133]
theorem set_idle (p q : Addr) (w : World) :
    CallsD Try.prog 133 #[.pointer (some p), .pointer (some q)] .returning w fun e u' w' => e = .returned (.tuple #[]) ∧ u' = .returning ∧ w' = w := by
  refine callsD_of_wpS Try.func133 rfl fun c₀ cs hu => ?_
  apply wpS_seq
  apply wpS_region
  simp [wpOpsS, go_sem, recoverD, hu, Try.ntmps133, Exit.thenS]
  refine wpS_cond (t := false) (by simp [Go.Act.eval, Array.replicate]) ?_
  simp only [Bool.false_eq_true, if_false]
  refine wpS_of_wp (wp_skip ?_)
  cases c₀
  simp_all [bodyPostS, results, Try.results133]
theorem outO_far {lo g T : Nat} {w w' : World} {v u : Value} {outs : List (List Int)} {used : List Int} {cs : Array Value} (h : OutO lo w v u outs used) (hg : w.heap[g]? = some (.cells cs T)) (h1 : T ≠ 46) (h2 : T ≠ 3) (hb : ∀ k, k < w.heap.size → k ≠ g → w'.heap[k]? = w.heap[k]?) : OutO lo w' v u outs used := by
  obtain ⟨us, B, rfl, hl, hB, hF⟩ := h
  have far : ∀ (q : Nat) (cur : Array Value) (T' : Nat), w.heap[q]? = some (.cells cur T') → T' ≠ T → w'.heap[q]? = some (.cells cur T') := by
    intro q cur T' hq hne
    rw [hb q (lt_of hq) (fun e => by subst e; rw [hq] at hg; simp at hg; exact hne hg.2)]
    exact hq
  refine ⟨us, B, rfl, hl, far B _ _ hB (fun e => h1 e.symm), hF.len, fun i u xs h1' h2' => ?_, hF.apart⟩
  have hv := hF.own i u xs h1' h2'
  refine ⟨hv.1, ?_⟩
  rcases hv.2 with hn | ⟨q, cap, cur, rfl, hbb, hq, rest⟩
  · exact .inl hn
  · exact .inr ⟨q, cap, cur, rfl, hbb, far q _ _ hq (fun e => h2 e.symm), rest⟩
theorem pv_far {lo g T : Nat} {w w' : World} {x : Value} {n : Net} {h : List (List Int)} {k : Nat} {cs : Array Value} (hp : PV lo w x n h k) (hg : w.heap[g]? = some (.cells cs T)) (h1 : T ≠ 46) (h2 : T ≠ 3) (hb : ∀ k, k < w.heap.size → k ≠ g → w'.heap[k]? = w.heap[k]?) : PV lo w' x n h k := by
  obtain ⟨ov, uv, ho, e⟩ := hp
  exact ⟨ov, uv, outO_far ho hg h1 h2 hb, e⟩
theorem pv_below {lo : Nat} {w w' : World} {x : Value} {n : Net} {h : List (List Int)} {k : Nat} (hp : PV lo w x n h k) (hb : Below w.heap.size w w') : PV lo w' x n h k := by
  obtain ⟨ov, uv, ho, e⟩ := hp
  exact ⟨ov, uv, outO_below ho hb, e⟩
theorem pv_mono {lo lo' : Nat} {w : World} {x : Value} {n : Net} {h : List (List Int)} {k : Nat} (hp : PV lo w x n h k) (hl : lo' ≤ lo) : PV lo' w x n h k := by
  obtain ⟨ov, uv, ho, e⟩ := hp
  exact ⟨ov, uv, outO_mono ho hl, e⟩
/-- The first m processes, all settled. -/
def SetO (lo : Nat) (w : World) (x : Value) (n : Net) (h : List (List Int)) (m : Nat) : Prop := ∃ L : List Value, w.ownsRow lo 95 1 x m L ∧ ∀ k y, L[k]? = some y → PV lo w y n h k
theorem rowT_below {lo T m : Nat} {w w' : World} {x : Value} {L : List Value} (h : w.ownsRow lo T 1 x m L) (hb : Below w.heap.size w w') : w'.ownsRow lo T 1 x m L := by
  refine ⟨h.1, ?_⟩
  rcases h.2 with hn | ⟨g, cap, cur, rfl, hbb, hg, rest⟩
  · exact .inl hn
  · exact .inr ⟨g, cap, cur, rfl, hbb, blk_in hg hb, rest⟩
theorem SetO.below {lo m : Nat} {w w' : World} {x : Value} {n : Net} {h : List (List Int)} (hs : SetO lo w x n h m) (hb : Below w.heap.size w w') : SetO lo w' x n h m := by
  obtain ⟨L, h1, h2⟩ := hs
  exact ⟨L, rowT_below h1 hb, fun k y hy => pv_below (h2 k y hy) hb⟩
theorem SetO.shape {lo m : Nat} {w : World} {x : Value} {n : Net} {h : List (List Int)} (hs : SetO lo w x n h m) : ∃ a c, x = .slice a m c := by
  obtain ⟨L, h1, _⟩ := hs
  rcases h1.2 with ⟨rfl, rfl⟩ | ⟨g, cap, cur, rfl, _⟩
  · exact ⟨_, _, rfl⟩
  · exact ⟨_, _, rfl⟩
theorem SetO.setB {lo c T m : Nat} {w : World} {x : Value} {n : Net} {h : List (List Int)} {cs : Array Value} (hs : SetO lo w x n h m) (hc : w.heap[c]? = some (.cells cs T)) (hl : c < lo) (h1 : T ≠ 46) (h2 : T ≠ 3) (v : Value) : SetO lo (w.setCell ⟨c, 0, none⟩ v) x n h m := by
  obtain ⟨L, k1, k2⟩ := hs
  exact ⟨L, ownsRow_setCell_below k1 hl v, fun k y hy => pv_far (k2 k y hy) hc h1 h2 (fun q _ hne => Below.heap_setCell _ _ _ _ hne)⟩
theorem SetO.mono {lo lo' m : Nat} {w : World} {x : Value} {n : Net} {h : List (List Int)} (hs : SetO lo w x n h m) (hl : lo' ≤ lo) : SetO lo' w x n h m := by
  obtain ⟨L, k1, k2⟩ := hs
  refine ⟨L, ⟨k1.1, ?_⟩, fun k y hy => pv_mono (k2 k y hy) hl⟩
  rcases k1.2 with hn | ⟨g, cap, cur, rfl, hbb, hg, rest⟩
  · exact .inl hn
  · exact .inr ⟨g, cap, cur, rfl, by omega, hg, rest⟩
theorem infoX : (Try.prog.info? 95).map (fun i => (i.zero, i.size, i.bytes)) = some (some .nilIface, 1, 16) := by kernel_rfl
theorem infoX_parts : ∃ i0, Try.prog.info? 95 = some i0 ∧ i0.zero = some .nilIface ∧ i0.size = 1 ∧ i0.bytes = 16 := by
  have h := infoX
  cases e : Try.prog.info? 95 with
  | none => rw [e] at h; cases h
  | some i =>
    rw [e] at h
    simp only [Option.map_some, Option.some.injEq, Prod.mk.injEq] at h
    exact ⟨i, rfl, h.1, h.2.1, h.2.2⟩
theorem lit_x (w : World) (y : Value) : ∀ j u, [y][j]? = some u → (w.alloc (.cells #[y] 95)).cell? ((⟨w.heap.size, 0, none⟩ : Addr).add j) = some u := by
  intro j u hj
  rw [Addr.add_lit, Nat.zero_add, cell_of (hp1 w _)]
  rw [← Array.getElem?_toList]; exact hj
/-- What is at a block that is neither the row that grew nor made anew. -/
theorem grown_at {lo T q : Nat} {w w' : World} {x : Value} {L : List Value} {A o : Obj} {m : Nat} (hr : w.ownsRow lo T 1 x m L) (hg : (w.alloc A).grownBy w' x.ownBlock) (ho : w.heap[q]? = some o) (hl : q < lo) : w'.heap[q]? = some o := by
  have l := lt_of ho
  rw [hg.block q (by simp; omega) (fun e => by have := (hr.lt _ e.symm).1; omega)]
  exact (Below.heap_alloc w A _ l).trans ho
theorem set_rel {lo q g gc : Nat} {w w3 w4 : World} {x y : Value} {n : Net} {h : List (List Int)} {L : List Value} {c : Nat}
    (HB3 : Below w.heap.size w w3) (HC : w.heap.size ≤ c) (HCL : c < lo) (HLO : lo ≤ w3.heap.size) (A2 : w3.heap[c]? = some (.cells #[x] 91))
    (hr : w3.ownsRow lo 95 1 x q L) (hL : ∀ k y, L[k]? = some y → PV lo w3 y n h k) (hP : PV lo w3 y n h q)
    (hown : w4.ownsRow lo 95 1 (.slice (some ⟨g, 0, none⟩) (q + 1) gc) (q + 1) (L ++ [y])) (hg : (w3.alloc (.cells #[y] 95)).grownBy w4 x.ownBlock) :
    (w4.setCell ⟨c, 0, none⟩ (.slice (some ⟨g, 0, none⟩) (q + 1) gc)).heap[c]? = some (.cells #[.slice (some ⟨g, 0, none⟩) (q + 1) gc] 91) ∧
    (∀ k o, k < lo → k ≠ c → w3.heap[k]? = some o → (w4.setCell ⟨c, 0, none⟩ (.slice (some ⟨g, 0, none⟩) (q + 1) gc)).heap[k]? = some o) ∧
    SetO lo (w4.setCell ⟨c, 0, none⟩ (.slice (some ⟨g, 0, none⟩) (q + 1) gc)) (.slice (some ⟨g, 0, none⟩) (q + 1) gc) n h (q + 1) ∧
    Below w.heap.size w (w4.setCell ⟨c, 0, none⟩ (.slice (some ⟨g, 0, none⟩) (q + 1) gc)) ∧
    lo ≤ (w4.setCell ⟨c, 0, none⟩ (.slice (some ⟨g, 0, none⟩) (q + 1) gc)).heap.size := by
  have s4 := hg.size
  simp at s4
  have C4 := grown_at hr hg A2 HCL
  have hx : ∀ k, x.ownBlock = some k → lo ≤ k := fun k e => (hr.lt k e).1
  have key : ∀ k z, PV lo w3 z n h k → PV lo (w4.setCell ⟨c, 0, none⟩ (.slice (some ⟨g, 0, none⟩) (q + 1) gc)) z n h k := by
    intro k z hz
    have hz4 : PV lo w4 z n h k := by
      have hza := pv_below hz ((Below.refl w3.heap.size w3).al (.cells #[y] 95))
      rcases hr.2 with ⟨rfl, _⟩ | ⟨r, cap, cur, rfl, hbb, hq, rest⟩
      · exact pv_far hza (blk_in A2 ((Below.refl w3.heap.size w3).al (.cells #[y] 95))) (by decide) (by decide) (fun k hk hne => hg.block k hk (by simp [Value.ownBlock]))
      · exact pv_far hza (blk_in hq ((Below.refl w3.heap.size w3).al (.cells #[y] 95))) (by decide) (by decide) (fun k hk hne => hg.block k hk (by simp only [Value.ownBlock, ne_eq, Option.some.injEq]; exact hne))
    exact pv_far hz4 C4 (by decide) (by decide) (fun k hk hne => Below.heap_setCell _ _ _ _ hne)
  refine ⟨?_, ?_, ⟨L ++ [y], ownsRow_setCell_below hown HCL _, ?_⟩, ?_, ?_⟩
  · rw [heap_setCell_same w4 c 0 #[x] _ _ C4]; rfl
  · intro k o hk hne ho
    rw [Below.heap_setCell _ _ _ _ hne]
    exact grown_at hr hg ho hk
  · intro k z hz
    rcases Nat.lt_trichotomy k q with e | e | e
    · have hl := hr.1
      rw [List.getElem?_append_left (by omega)] at hz
      exact key k z (hL k z hz)
    · have hl := hr.1
      rw [List.getElem?_append_right (by omega), show k - L.length = 0 by omega] at hz
      obtain rfl := Option.some.inj hz
      subst e
      exact key k _ hP
    · have hl := hr.1
      rw [List.getElem?_eq_none (by simp; omega)] at hz
      cases hz
  · exact (((HB3.alloc (by have := HB3.size; omega) (.cells #[y] 95)).grown hg (by simp; omega) (fun k e => by have := hx k e; omega))).setCell HC _
  · have : w4.heap.size = (w4.setCell ⟨c, 0, none⟩ (.slice (some ⟨g, 0, none⟩) (q + 1) gc)).heap.size := by simp [World.setCell]
    omega
/-- What is known where the assertion fails. -/
def PanQ (D : List Deferred) (p4 p5 : Value) (X : World → Prop) : Exit → Go.Act → World → Prop
  | .panic c, a, w => (∃ (T : TypeId) (p : Value), c = [{ v := .iface T p, recovered := false }]) ∧ a.defers = D ∧ a.tmps.getD 4 undef = p4 ∧ a.tmps.getD 5 undef = p5 ∧ X w
  | _, _, _ => False
theorem PanQ.put {D : List Deferred} {p4 p5 v : Value} {X : World → Prop} {d : Nat} (hd : 6 ≤ d) : ∀ c a w, PanQ D p4 p5 X (.panic c) (a.put (some d) v) w → PanQ D p4 p5 X (.panic c) a w := by
  intro c a w ⟨h1, h2, h3, h4, h5⟩
  refine ⟨h1, h2, ?_, ?_, h5⟩
  · rw [← h3]; simp [Go.Act.put, Array.getD_eq_getD_getElem?, Array.getElem?_setIfInBounds]; rw [if_neg (by omega)]
  · rw [← h4]; simp [Go.Act.put, Array.getD_eq_getD_getElem?, Array.getElem?_setIfInBounds]; rw [if_neg (by omega)]

set_option maxRecDepth 100000 in
set_option maxHeartbeats 8000000 in
theorem iset_any (v u : Value) (n : Net) (h : List (List Int)) (w : World) (hv : NetV w v n) (hu : SlR w u h) (g : GoodH n h) :
    Calls Try.prog 79 #[v, u] w fun e w' => ∃ x, e = .returned (.tuple #[x, .bool (upN (settL n h) n.progs.length)]) ∧ (upN (settL n h) n.progs.length = true → SetO w.heap.size w' x n h n.progs.length) ∧ Below w.heap.size w w' := by
  obtain ⟨pv, lv, rfl, hps, hls⟩ := hv
  have HV := Lib.hid (show NetV w (.agg #[pv, lv]) n from ⟨pv, lv, rfl, hps, hls⟩)
  have HU := Lib.hid hu
  have LP := hps.len
  obtain ⟨pa, pcap, rfl⟩ := hps.shape
  obtain ⟨la, lcap, rfl⟩ := hls.shape
  obtain ⟨i0, hi, hz0, hz1, hz2⟩ := infoX_parts
  have G := Lib.hid g
  obtain ⟨m, hm⟩ : ∃ z, z = n.progs.length := ⟨_, rfl⟩
  obtain ⟨ll, hll⟩ : ∃ z, z = n.links.length := ⟨_, rfl⟩
  have NP := Lib.hid hm
  have NL := Lib.hid hll
  have HB30 := Lib.hid (show m ≤ 30 by rw [hm]; have := okN_len g.ok; omega)
  rw [← hm] at LP HV ⊢
  rw [← hll] at HV
  have TU := ta_unfinished
  obtain ⟨F, hF⟩ := Classical.skolem.1 (fun p : Value × World => ta_unfinished p.1 p.2)
  have hmf : ∀ (fn : Fn) (first cap : Array Value) (w : World), (Instr.makeFunc fn first cap).run Try.prog w = .ok (.func fn first cap) w := fun _ _ _ _ => rfl
  clear hps hls hu g hm hll TU
  have h0 := Lib.hid (al_keep (o := (.cells #[.bool false] 4)) (al_keep (o := (.cells #[.slice none 0 0] 91)) (hp1 w (.cells #[.slice pa m pcap, .slice la ll lcap] 34))))
  have h1 := Lib.hid (al_keep (o := (.cells #[.bool false] 4)) (hp2 w (.cells #[.slice pa m pcap, .slice la ll lcap] 34) (.cells #[.slice none 0 0] 91)))
  have h2 := Lib.hid (hp3 w (.cells #[.slice pa m pcap, .slice la ll lcap] 34) (.cells #[.slice none 0 0] 91) (.cells #[.bool false] 4))
  have hb := Lib.hid ((((Below.refl w.heap.size w).al (.cells #[.slice pa m pcap, .slice la ll lcap] 34)).al (.cells #[.slice none 0 0] 91)).al (.cells #[.bool false] 4))
  go_enter_defers Try.func79, Try.ntmps79
  go_wp2_with fail
  obtain ⟨w0, hw0⟩ : ∃ W, W = (((w.alloc (.cells #[.slice pa m pcap, .slice la ll lcap] 34)).alloc (.cells #[.slice none 0 0] 91)).alloc (.cells #[.bool false] 4)) := ⟨_, rfl⟩
  have HS0 : w.heap.size + 3 ≤ w0.heap.size := by rw [hw0]; simp
  rw [← hw0] at h0 h1 h2 hb
  simp only [← NL.out]
  rw [← hw0]
  clear hw0
  go_loopw [11] (fun i wr => ∃ (q : Nat) (cv : Value), q ≤ m ∧ i = .int .i64 q ∧ Hid (wr.heap[w.heap.size]? = some (.cells #[.slice pa m pcap, .slice la ll lcap] 34)) ∧ Hid (wr.heap[w.heap.size + 1]? = some (.cells #[cv] 91)) ∧ Hid (wr.heap[w.heap.size + 1 + 1]? = some (.cells #[.bool false] 4)) ∧
    Hid (SetO (w.heap.size + 3) wr cv n h q) ∧ Hid (upN (settL n h) q = true) ∧ Hid (Below w.heap.size w wr) ∧ Hid (w.heap.size + 3 ≤ wr.heap.size)) (fun i _ => m - (intOf i).toNat)
  case atStart => exact ⟨0, _, Nat.zero_le _, rfl, h0, h1, h2, Lib.hid ⟨[], ⟨rfl, .inl ⟨rfl, rfl⟩⟩, fun k y hy => by simp at hy⟩, Lib.hid rfl, hb, Lib.hid HS0⟩
  case round =>
    clear h0 h1 h2 hb HS0
    obtain ⟨q, cv, hq, rfl, A0, A1, A2, HO, HUP, HB, HS⟩ := hrel
    by_cases hlt : q < m
    case pos =>
      obtain ⟨L, hrow, hpv⟩ := HO.out
      have HROW := Lib.hid hrow
      have HPV := Lib.hid hpv
      clear hrow hpv HO
      obtain ⟨b0, b1⟩ := cells2 A0.out
      have b2 : wr.cell? ⟨w.heap.size + 1, 0, none⟩ = some cv := by rw [cell_of A1.out]; rfl
      have C := Lib.hid (fun (W : World) (hw : Below w.heap.size w W) => iran_any (.agg #[.slice pa m pcap, .slice la ll lcap]) u n h q W (HV.out.below hw) (HU.out.below hw) G.out (by rw [← NP.out]; exact hlt))
      have CC := Lib.hid (C.out (World.drew wr) HB.out.drew)
      go_wp2_with fail
      refine wp_open' ?_
      intro K9 hK9
      go_cut [11] from 14 to 22 (fun s11 wq => ∃ (cv : Value), s11 = .int .i64 q ∧ Hid (wq.heap[w.heap.size]? = some (.cells #[.slice pa m pcap, .slice la ll lcap] 34)) ∧ Hid (wq.heap[w.heap.size + 1]? = some (.cells #[cv] 91)) ∧ Hid (wq.heap[w.heap.size + 1 + 1]? = some (.cells #[.bool false] 4)) ∧
        Hid (SetO (w.heap.size + 3) wq cv n h (q + 1)) ∧ Hid (upN (settL n h) (q + 1) = true) ∧ Hid (Below w.heap.size w wq) ∧ Hid (w.heap.size + 3 ≤ wq.heap.size))
      case first =>
        by_cases y0 : settL n h q = true
        case pos =>
          have CS := Lib.hid (show Calls Try.prog 134 #[.agg #[.slice pa m pcap, .slice la ll lcap], .int .i64 (q : Int), u] (World.drew wr) fun e w' => ∃ T a, e = .returned (.iface T a) ∧ (∀ W, (Instr.typeAssert (.iface T a) 146 95 false).run Try.prog W = .ok (.iface T a) W) ∧ PV wr.heap.size w' (.iface T a) n h q ∧ Below wr.heap.size wr w' from by
            refine CC.out.mono ?_
            rintro e w3 ⟨x, rfl, hp, hb3⟩
            have hb4 : Below wr.heap.size wr w3 := (below_drewN wr 1).trans hb3
            obtain ⟨ov, uv, ho, hx⟩ := hp
            unfold settL at y0
            unfold procV at hx
            rcases of_decide_eq_true y0 with e | e
            · rw [if_pos e] at hx
              subst hx
              exact ⟨_, _, rfl, fun W => ta_halted _ W, ⟨ov, uv, ho, by unfold procV; rw [if_pos e]⟩, hb4⟩
            · rw [if_neg (by omega), if_pos e] at hx
              subst hx
              exact ⟨_, _, rfl, fun W => ta_waiting _ W, ⟨ov, uv, ho, by unfold procV; rw [if_neg (by omega), if_pos e]⟩, hb4⟩)
          clear CC C hmf hF
          refine wp_region_noPanic ?_
          go_region_law (first
            | (refine Go.step_append_lies _ rfl (.tmp 14) (.tmp 20) 91 rfl (w.heap.size + 3) 95 i0 .nilIface 1 16 Try.underlying91 hi hz0 hz1 hz2 rfl (by decide) cv q L (by simp [Go.Act.eval]) (World.ownsRow.alloc (rowT_below HROW.out HB3.out) _) ⟨w3.heap.size, 0, none⟩ 1 1 [.iface T ia] (by simp [Go.Act.eval]) rfl (lit_x w3 (.iface T ia)) (by intro u hu; simp at hu; subst hu; rfl) (by omega) (by have := HB30.out; unfold maxLen; omega) (by have := HB30.out; omega) (by have := HS.out; have := HB3.out.size; simp; omega) (w3.heap.size + 1) (by simp) ?_
               intro g gc w4 hown hgrow hor hglt
               have BB := grown_at (rowT_below HROW.out HB3.out) hgrow (blk_in A1.out HB3.out) (by omega)
               have d0 : w4.cell? ⟨w.heap.size + 1, 0, none⟩ = some cv := by rw [cell_of BB]; rfl
               have d1 := fr_of BB 0
               have HOW := Lib.hid hown
               have HGR := Lib.hid hgrow
               clear hown hgrow hor BB)
            | (go_simp
               go_at_call 134
               refine CS.out.mono ?_
               rintro e w3 ⟨T, ia, rfl, ta, hp, hb3⟩
               have HP := Lib.hid hp
               have HB3 := Lib.hid hb3
               have c2 : w3.cell? ⟨w.heap.size + 1, 0, none⟩ = some cv := by rw [cell_of (blk_in A1.out hb3)]; rfl
               have l3 := lt_of (blk_in A1.out hb3)
               clear hp hb3))
          all_goals (
            refine NoPanic.normal ?_
            go_wp2_with fail
            go_meet
            case rel =>
              have M := set_rel (HB.out.trans (HB3.out.mono HB.out.size)) (show w.heap.size ≤ w.heap.size + 1 by omega) (show w.heap.size + 1 < w.heap.size + 3 by omega) (Nat.le_trans HS.out HB3.out.size) (blk_in A1.out HB3.out) (rowT_below HROW.out HB3.out) (fun k y hy => pv_below (HPV.out k y hy) HB3.out) (pv_mono HP.out HS.out) HOW.out HGR.out
              exact ⟨_, rfl, Lib.hid (M.2.1 _ _ (by omega) (by omega) (blk_in A0.out HB3.out)), Lib.hid M.1, Lib.hid (M.2.1 _ _ (by omega) (by omega) (blk_in A2.out HB3.out)), Lib.hid M.2.2.1, Lib.hid (upN_step HUP.out y0), Lib.hid M.2.2.2.1, Lib.hid M.2.2.2.2⟩)
        case neg =>
          have HNO := Lib.hid (upN_no hlt (show settL n h q = false by simpa using y0))
          have CU := Lib.hid (show Calls Try.prog 134 #[.agg #[.slice pa m pcap, .slice la ll lcap], .int .i64 (q : Int), u] (World.drew wr) fun e w' => ∃ a, e = .returned (.iface 174 a) ∧ Below wr.heap.size wr w' from by
            refine CC.out.mono ?_
            rintro e w3 ⟨x, rfl, hp, hb3⟩
            have hb4 : Below wr.heap.size wr w3 := (below_drewN wr 1).trans hb3
            obtain ⟨ov, uv, ho, hx⟩ := hp
            unfold settL at y0
            have y1 : ¬ ((runL n h q).2 = 0 ∨ (runL n h q).2 = 2) := fun e => y0 (decide_eq_true e)
            unfold procV at hx
            rw [if_neg (fun e => y1 (.inl e)), if_neg (fun e => y1 (.inr e))] at hx
            subst hx
            exact ⟨_, rfl, hb4⟩)
          have TU : ∀ (a : Value) (W : World), (Instr.typeAssert (.iface 174 a) 146 95 false).run Try.prog W = .halt (.panic (.iface (F (a, W)).1 (F (a, W)).2.1)) (W.alloc (F (a, W)).2.2) := fun a W => hF (a, W)
          clear CC C hmf hF
          refine wp_mono (Q := PanQ [{ target := Target.fn (Fn.func 133) #[.pointer (some ⟨w.heap.size + 1, 0, none⟩), .pointer (some ⟨w.heap.size + 1 + 1, 0, none⟩)], args := #[] }] (.pointer (some ⟨w.heap.size + 1, 0, none⟩)) (.pointer (some ⟨w.heap.size + 1 + 1, 0, none⟩)) (fun W => W.heap[w.heap.size + 1]? = some (.cells #[cv] 91) ∧ W.heap[w.heap.size + 1 + 1]? = some (.cells #[.bool false] 4) ∧ Below w.heap.size w W)) ?_ ?_
          · refine wp_region_held_drew (S := fun w' => w'.cell? ⟨w.heap.size, 0, none⟩ = some (.slice pa m pcap) ∧ w'.cell? ⟨w.heap.size, 1, none⟩ = some (.slice la ll lcap) ∧ w'.cell? ⟨w.heap.size + 1, 0, none⟩ = some cv) (by kernel_rfl) ?_ (fun hHeld => ?_)
            · (try dsimp only); go_keep
            refine wpAnyH_take (i := 0) (oi := _) (v := ?_) rfl (by kernel_rfl) (by kernel_rfl) (by kernel_rfl) (PanQ.put (d := 14) (by decide)) (Or.inl ⟨by rfl, ?_⟩) (by assumption) ?_
            rotate_left 1
            · intro w hSw; (try dsimp only at hSw); go_simp; try with_reducible rfl
            try simp only [Go.Act.put, List.setIfInBounds_toArray]
            refine wpAnyH_take (i := 1) (oi := _) (v := ?_) rfl (by kernel_rfl) (by kernel_rfl) (by kernel_rfl) (PanQ.put (d := 15) (by decide)) (Or.inl ⟨by rfl, ?_⟩) (by assumption) ?_
            rotate_left 1
            · intro w hSw; (try dsimp only at hSw); go_simp; try with_reducible rfl
            try simp only [Go.Act.put]
            refine wpAnyH_take (i := 2) (oi := _) (v := ?_) rfl (by kernel_rfl) (by kernel_rfl) (by kernel_rfl) (PanQ.put (d := 16) (by decide)) (Or.inl ⟨by rfl, ?_⟩) (by assumption) ?_
            rotate_left 1
            · intro w hSw; (try dsimp only at hSw); go_simp; try with_reducible rfl
            try simp only [Go.Act.put]
            refine wpAnyH_take (i := 3) (oi := _) (v := ?_) rfl (by kernel_rfl) (by kernel_rfl) (by kernel_rfl) (PanQ.put (d := 17) (by decide)) (Or.inl ⟨by rfl, ?_⟩) (by assumption) ?_
            rotate_left 1
            · intro w hSw; (try dsimp only at hSw); go_simp; try with_reducible rfl
            try simp only [Go.Act.put]
            refine wpAnyH_ready (rs := [4]) (by kernel_rfl) (by simp) ?_
            refine AllReadyH.cons (o := _) rfl (fun K hK => ?_) AllReadyH.nil
            go_simp
            go_at_call 134
            refine CU.out.mono ?_
            rintro e w3 ⟨ia, rfl, hb3⟩
            have HB3 := Lib.hid hb3
            obtain ⟨c0, c1⟩ := cells2 (blk_in A0.out hb3)
            have c2 : w3.cell? ⟨w.heap.size + 1, 0, none⟩ = some cv := by rw [cell_of (blk_in A1.out hb3)]; rfl
            clear hb3
            refine hK.out _ _ ⟨c0, c1, c2⟩ (fun hHeld => ?_)
            clear hK K
            try simp only [Go.Act.put, List.setIfInBounds_toArray]
            refine wpAnyH_ready (rs := [5]) (by kernel_rfl) (by simp) ?_
            refine AllReadyH.cons (o := _) rfl (fun K hK => ?_) AllReadyH.nil
            go_simp
            exact ⟨⟨_, _, rfl⟩, rfl, rfl, rfl, al_keep (blk_in A1.out HB3.out), al_keep (blk_in A2.out HB3.out), ((HB.out.trans (HB3.out.mono HB.out.size))).al _⟩
          · intro e a W hq
            cases e with
            | panic c =>
              obtain ⟨⟨T, p, rfl⟩, hD, h4, h5, X1, X2, X3⟩ := hq
              simp only [Exit.inBlock, Exit.then]
              show Leaves Try.prog _ a.tmps _ a.defers _ W
              rw [hD]
              refine leaves_cons (f := 133) (args := #[.pointer (some ⟨w.heap.size + 1, 0, none⟩), .pointer (some ⟨w.heap.size + 1 + 1, 0, none⟩)]) (by simp) (by simp [go_sem]) ?_
              refine (set_panicking _ _ _ _ _ _ _ _ X1 X2).mono ?_
              rintro e u' w'' ⟨rfl, rfl, rfl⟩
              have k4 : ((W.setCell ⟨w.heap.size + 1, 0, none⟩ (.slice none 0 0)).setCell ⟨w.heap.size + 1 + 1, 0, none⟩ (.bool false)).heap[w.heap.size + 1]? = some (.cells #[.slice none 0 0] 91) := by
                rw [Below.heap_setCell _ _ _ _ (by show w.heap.size + 1 ≠ w.heap.size + 1 + 1; omega), heap_setCell_same W _ 0 #[cv] _ _ X1]; rfl
              have k5 : ((W.setCell ⟨w.heap.size + 1, 0, none⟩ (.slice none 0 0)).setCell ⟨w.heap.size + 1 + 1, 0, none⟩ (.bool false)).heap[w.heap.size + 1 + 1]? = some (.cells #[.bool false] 4) := by
                rw [heap_setCell_same (W.setCell ⟨w.heap.size + 1, 0, none⟩ (.slice none 0 0)) _ 0 #[.bool false] 4 _ (by rw [Below.heap_setCell _ _ _ _ (by show w.heap.size + 1 + 1 ≠ w.heap.size + 1; omega)]; exact X2)]; rfl
              have r4 := cell_of k4 0
              have r5 := cell_of k5 0
              rw [Array.getD_eq_getD_getElem?] at h4 h5
              refine ⟨.tuple #[.slice none 0 0, .bool false], by simp [results, Try.results79, go_sem, h4, h5, r4, r5], _, by rw [HNO.out], (fun e => by rw [HNO.out] at e; cases e), (X3.setCell (by show w.heap.size ≤ w.heap.size + 1; omega) _).setCell (by show w.heap.size ≤ w.heap.size + 1 + 1; omega) _⟩
            | _ => exact hq.elim
      case rest =>
        obtain ⟨cv', rfl, C0, C1, C2, C3, C4, C5, C6⟩ := hcut
        refine hK9 _ _ ?_
        go_wp2_with fail
        go_roundw
        case rel =>
          exact ⟨q + 1, cv', by omega, by go_num, C0, C1, C2, C3, C4, C5, C6⟩
        case measure => simp [intOf]; omega
    case neg =>
      obtain rfl : q = m := by omega
      obtain ⟨ra, rc, rfl⟩ := HO.out.shape
      have b2 : wr.cell? ⟨w.heap.size + 1, 0, none⟩ = some (.slice ra q rc) := by rw [cell_of A1.out]; rfl
      have b3 : wr.cell? ⟨w.heap.size + 1 + 1, 0, none⟩ = some (.bool false) := by rw [cell_of A2.out]; rfl
      have z2 := fr_of A1.out 0
      have z3 := fr_of A2.out 0
      go_wp2_with fail
      refine leaves_cons (f := 133) (args := #[.pointer (some ⟨w.heap.size + 1, 0, none⟩), .pointer (some ⟨w.heap.size + 1 + 1, 0, none⟩)]) (by simp) (by simp [go_sem]) ?_
      refine (set_idle _ _ _).mono ?_
      rintro e u' w'' ⟨rfl, rfl, rfl⟩
      have k4 : ((wr.setCell ⟨w.heap.size + 1, 0, none⟩ (.slice ra q rc)).setCell ⟨w.heap.size + 1 + 1, 0, none⟩ (.bool true)).heap[w.heap.size + 1]? = some (.cells #[.slice ra q rc] 91) := by
        rw [Below.heap_setCell _ _ _ _ (by show w.heap.size + 1 ≠ w.heap.size + 1 + 1; omega), heap_setCell_same wr _ 0 #[.slice ra q rc] _ _ A1.out]; rfl
      have k3 : (wr.setCell ⟨w.heap.size + 1, 0, none⟩ (.slice ra q rc)).heap[w.heap.size + 1 + 1]? = some (.cells #[.bool false] 4) := by
        rw [Below.heap_setCell _ _ _ _ (by show w.heap.size + 1 + 1 ≠ w.heap.size + 1; omega)]; exact A2.out
      have k5 : ((wr.setCell ⟨w.heap.size + 1, 0, none⟩ (.slice ra q rc)).setCell ⟨w.heap.size + 1 + 1, 0, none⟩ (.bool true)).heap[w.heap.size + 1 + 1]? = some (.cells #[.bool true] 4) := by
        rw [heap_setCell_same (wr.setCell ⟨w.heap.size + 1, 0, none⟩ (.slice ra q rc)) _ 0 #[.bool false] 4 _ k3]; rfl
      have r4 := cell_of k4 0
      have r5 := cell_of k5 0
      refine ⟨.tuple #[.slice ra q rc, .bool true], by simp [results, Try.results79, go_sem, r4, r5], _, by rw [HUP.out], fun _ => ?_, (HB.out.setCell (by show w.heap.size ≤ w.heap.size + 1; omega) _).setCell (by show w.heap.size ≤ w.heap.size + 1 + 1; omega) _⟩
      exact ((HO.out.setB A1.out (by omega) (by decide) (by decide) _).setB k3 (by omega) (by decide) (by decide) _).mono (by omega)

theorem mkSB (n : Nat) (h : n ≤ 1000) (W : World) : (Instr.makeSlice 26 (.int .i64 (n : Int)) (.int .i64 (n : Int))).run Try.prog W = .ok (.slice (some ⟨W.heap.size, 0, none⟩) n n) (W.alloc (.cells (Array.replicate n (Value.slice none 0 0)) 46)) := by
  obtain ⟨is, hs0, hy0, hy1, hy2⟩ := infoS_parts
  have q := run_make (P := Try.prog) W 26 46 is (.slice none 0 0) Try.underlying26 hs0 hy0 .i64 .i64 n n (by omega) (Int.le_refl _) (by rw [hy2]; omega) (by omega)
  rw [q, hy1]
  simp only [Int.toNat_natCast]
  rw [Nat.mul_one, show madeCells (Value.slice none 0 0).cells n = Array.replicate n (Value.slice none 0 0) from by rw [← List.toArray_replicate, ← toList_madeCells_one (Value.slice none 0 0) n]; simp [Value.cells]]
set_option maxHeartbeats 1600000 in
theorem iwritten_any {w : World} {lo : Nat} {ov uv : Value} {outs : List (List Int)} {used : List Int} (h : OutO lo w ov uv outs used) (hl : outs.length ≤ 1000) {o : Nat} {row : List Int} (ho : outs[o]? = some row) :
    ∃ x, Sl w x row ∧ ∀ W, Below w.heap.size w W → Calls Try.prog 182 #[ov, .int .i64 (o : Int)] W fun e w' => e = .returned x ∧ W = w' := by
  obtain ⟨us, B, rfl, _, hB, hF⟩ := h
  have hlen := hF.len
  simp only [List.length_append, List.length_cons, List.length_nil] at hlen
  have hol := (List.getElem?_eq_some_iff.1 ho).1
  have hu : us[o]? = some us[o] := List.getElem?_eq_getElem (by omega)
  obtain ⟨x, hx⟩ : ∃ x, x = us[o] := ⟨_, rfl⟩
  rw [← hx] at hu
  have hO := hF.own o x row (by rw [List.getElem?_append_left (by omega)]; exact hu) (by rw [List.getElem?_append_left (by omega)]; exact ho)
  refine ⟨x, hO.sl, fun W hw => ?_⟩
  have c0 : W.cell? ⟨B, o, none⟩ = some x := row_cell (blk_in hB hw) hu
  obtain ⟨q, hq⟩ : ∃ z, z = us.length := ⟨_, rfl⟩
  rw [← hq] at hlen ⊢
  have h1 : o < q := by omega
  have h2 : q ≤ 9223372036854775807 := by omega
  clear hF hB hu hO hx hlen hl ho hq hw
  go_enter Try.func182, Try.ntmps182
  go_wp2_with fail
  go_ret
  exact ⟨rfl, rfl⟩
theorem fill_set {us : List Value} {k ll : Nat} {z x : Value} (hu : us.length = k) (hk : k < ll) : (us ++ List.replicate (ll - k) z).set k x = (us ++ [x]) ++ List.replicate (ll - (k + 1)) z := by
  rw [List.set_append_right _ _ (by omega), show k - us.length = 0 by omega, show ll - k = (ll - (k + 1)) + 1 by omega, List.replicate_succ, List.set_cons_zero]
  simp
/-- The slice that is filled: k streams are there. -/
def MadeR (lo B ll k : Nat) (w : World) (xss : List (List Int)) : Prop :=
  ∃ us, us.length = k ∧ w.heap[B]? = some (.cells (us ++ List.replicate (ll - k) (.slice none 0 0)).toArray 46) ∧ Fam lo w us (xss.take k)
theorem MadeR.step {lo B ll k : Nat} {w w1 : World} {xss : List (List Int)} {x : Value} {row : List Int} (h : MadeR lo B ll k w xss) (hb : Below w.heap.size w w1) (hlo : lo ≤ w.heap.size) (hk : k < ll) (hrow : xss[k]? = some row) (ho : Own w.heap.size w1 x row) :
    MadeR lo B ll (k + 1) (w1.setCell ⟨B, k, none⟩ x) xss := by
  obtain ⟨us, h1, h2, h3⟩ := h
  have b1 := blk_in h2 hb
  refine ⟨us ++ [x], by simp [h1], ?_, ?_⟩
  · rw [set_row b1, fill_set h1 hk]
  · have hx := (List.getElem?_eq_some_iff.1 hrow)
    have e : xss.take (k + 1) = xss.take k ++ [row] := by
      rw [List.take_succ_eq_append_getElem hx.1, hx.2]
    rw [e]
    have hF := h3.snoc (w1 := w1) (x := x) (xs := row) (fun u ys q => q.below hb) (ho.mono hlo) (fun u ys q _ => by
      cases q1 : u.ownBlock with
      | none => exact .inl q1
      | some c =>
        right
        rw [q1]
        intro q2
        have := (q.lt c q1).2
        have := (ho.lt c q2.symm).1
        omega)
    exact hF.setB b1 (by decide) _
theorem MadeR.rows {lo B ll : Nat} {w : World} {xss : List (List Int)} (h : MadeR lo B ll ll w xss) (hlo : lo ≤ B) (hx : xss.length = ll) (hm : ll ≤ 1000) : RowsH lo w.heap.size w (.slice (some ⟨B, 0, none⟩) ll ll) xss := by
  obtain ⟨us, rfl, h2, h3⟩ := h
  rw [Nat.sub_self, List.replicate_zero, List.append_nil] at h2
  rw [List.take_of_length_le (by omega)] at h3
  have hF := h3.snoc (w1 := w) (x := .slice none 0 0) (xs := []) (fun u ys q => q) ⟨rfl, .inl ⟨rfl, rfl⟩⟩ (fun u ys q _ => by
      cases q1 : u.ownBlock with
      | none => exact .inl q1
      | some c => right; rw [q1]; simp [Value.ownBlock])
  exact ⟨us, .inr ⟨B, us.length, us.toArray, rfl, hlo, lt_of h2, Nat.le_refl _, by unfold maxLen; omega, h2, by simp⟩, hF, fam_hi hF⟩
theorem MadeR.cell {lo B ll k : Nat} {w w1 : World} {xss : List (List Int)} (h : MadeR lo B ll k w xss) (hk : k < ll) (hb : Below w.heap.size w w1) : w1.cell? ⟨B, k, none⟩ = some (.slice none 0 0) ∧ w1.frozen? ⟨B, k, none⟩ = false ∧ B < w1.heap.size := by
  obtain ⟨us, h1, h2, _⟩ := h
  have b1 := blk_in h2 hb
  refine ⟨row_cell b1 ?_, fr_of b1 k, lt_of b1⟩
  rw [List.getElem?_append_right (by omega), List.getElem?_replicate, if_pos (by omega)]
theorem rowsH_nil (lo : Nat) (w : World) : RowsH lo w.heap.size w (.slice none 0 0) [] := by
  have hF : Fam lo w [.slice none 0 0] [[]] := by
    refine ⟨rfl, fun i u xs h1 h2 => ?_, fun i j u u' h1 h2 hij => ?_⟩
    · cases i with
      | zero => simp at h1 h2; subst h1 h2; exact ⟨rfl, .inl ⟨rfl, rfl⟩⟩
      | succ i => simp at h1
    · cases i with
      | zero => simp at h1; subst h1; exact .inl rfl
      | succ i => simp at h1
  exact ⟨[], .inl ⟨rfl, rfl⟩, hF, fam_hi hF⟩
theorem lall_step {p : Lnk → Bool} {ls : List Lnk} {k : Nat} {x : Lnk} (hx : ls[k]? = some x) (ha : (ls.take k).all p = true) (hp : p x = true) : (ls.take (k + 1)).all p = true := by
  have h := List.getElem?_eq_some_iff.1 hx
  rw [List.take_succ_eq_append_getElem h.1, h.2, List.all_append, ha]
  simp [hp]
theorem lall_no {p : Lnk → Bool} {ls : List Lnk} {k : Nat} {x : Lnk} (hx : ls[k]? = some x) (hp : p x = false) : ls.all p = false := by
  rw [List.all_eq_false]
  exact ⟨x, List.mem_of_getElem? hx, by simp [hp]⟩
theorem SetO.at {lo m k : Nat} {w : World} {x : Value} {n : Net} {h : List (List Int)} (hs : SetO lo w x n h m) (hk : k < m) : ∃ b c y, x = .slice (some ⟨b, 0, none⟩) m c ∧ b < w.heap.size ∧ w.cell? ⟨b, k, none⟩ = some y ∧ PV lo w y n h k := by
  obtain ⟨L, h1, h2⟩ := hs
  have hl := h1.1
  obtain ⟨y, hy⟩ : ∃ y, L[k]? = some y := ⟨_, List.getElem?_eq_getElem (by omega)⟩
  rcases h1.2 with ⟨_, h0⟩ | ⟨g, cap, cur, rfl, _, hg, _, _, _, ht⟩
  · omega
  · refine ⟨g, cap, _, rfl, lt_of hg, ?_, h2 k _ hy⟩
    rw [cell_of hg]
    rw [← ht, List.getElem?_take, if_pos (by omega), Array.getElem?_toList] at hy
    rw [← hy]
theorem proc_meth {n : Net} {h : List (List Int)} {k : Nat} (ov : Value) (hs : settL n h k = true) : ∃ T a, procV ov n h k = .iface T a ∧ ∀ w, (method (200 + 101) T a "loop.example/g03224/impl.written").run Try.prog w = .ok (182, ov) w := by
  unfold settL at hs
  unfold procV
  rcases of_decide_eq_true hs with e | e
  · rw [if_pos e]
    exact ⟨_, _, rfl, fun w => by kernel_rfl⟩
  · rw [if_neg (by omega), if_pos e]
    exact ⟨_, _, rfl, fun w => by kernel_rfl⟩
/-- What a round answers. -/
def madeR (n : Net) (h : List (List Int)) : List (List Int) := if okR n h then roundL n h else []

set_option maxRecDepth 100000 in
set_option maxHeartbeats 8000000 in
theorem imade_any (v u : Value) (n : Net) (h : List (List Int)) (w : World) (hv : NetV w v n) (hu : SlR w u h) (g : GoodH n h) :
    Calls Try.prog 65 #[v, u] w fun e w' => ∃ r, e = .returned (.tuple #[r, .bool (okR n h)]) ∧ RowsH w.heap.size w'.heap.size w' r (madeR n h) ∧ Below w.heap.size w w' := by
  obtain ⟨pv, lv, rfl, hps, hls⟩ := hv
  have HV := Lib.hid (show NetV w (.agg #[pv, lv]) n from ⟨pv, lv, rfl, hps, hls⟩)
  have HU := Lib.hid hu
  have HL := Lib.hid hls
  have LL := hls.len
  obtain ⟨pa, pcap, rfl⟩ := hps.shape
  obtain ⟨la, lcap, rfl⟩ := hls.shape
  have G := Lib.hid g
  obtain ⟨m, hm⟩ : ∃ z, z = n.progs.length := ⟨_, rfl⟩
  obtain ⟨ll, hll⟩ : ∃ z, z = n.links.length := ⟨_, rfl⟩
  have NP := Lib.hid hm
  have NL := Lib.hid hll
  have hm30 : m ≤ 30 := by rw [hm]; have := okN_len g.ok; omega
  have hl30 : ll ≤ 30 := by rw [hll]; have := okN_len g.ok; omega
  have LM : m ≤ 9223372036854775807 := by omega
  have OKR := Lib.hid (show okR n h = (upN (settL n h) m && n.links.all fun l => isS (madeL n h l)) by unfold okR; rw [hm])
  rw [← hm] at HV
  rw [← hll] at HV HL LL
  rw [← hm, ← hll]
  clear hps hls hu g hm hll
  have h0 := Lib.hid (hp1 w (.cells #[.slice pa m pcap, .slice la ll lcap] 34))
  have hb0 := Lib.hid ((Below.refl w.heap.size w).al (.cells #[.slice pa m pcap, .slice la ll lcap] 34))
  have CS := Lib.hid (fun (W : World) (hw : Below w.heap.size w W) => iset_any (.agg #[.slice pa m pcap, .slice la ll lcap]) u n h W (HV.out.below hw) (HU.out.below hw) G.out)
  rw [← NP.out] at CS
  have MK := fun (W : World) => mkSB ll (by omega) W
  obtain ⟨ok, hok⟩ : ∃ z, z = okR n h := ⟨_, rfl⟩
  rw [← hok] at OKR
  have HMR := Lib.hid (show madeR n h = if ok then roundL n h else [] by rw [hok]; rfl)
  rw [HMR.out, ← hok]
  clear hok HMR
  cases hset : upN (settL n h) m with
  | false =>
    obtain rfl : ok = false := by rw [OKR.out, hset]; rfl
    go_enter Try.func65, Try.ntmps65
    go_wp2_with (go_at_call 79; with_reducible refine (CS.out _ hb0.out).mono ?_; rintro e w1 ⟨x, rfl, _, hb1⟩; rw [hset]; have HB1 := Lib.hid (hb0.out.trans (hb1.mono hb0.out.size)); clear hb1)
    go_ret2
    exact ⟨_, rfl, rowsH_nil _ _, HB1.out⟩
  | true =>
    go_enter Try.func65, Try.ntmps65
    go_wp2_with (go_at_call 79; with_reducible refine (CS.out _ hb0.out).mono ?_; rintro e w1 ⟨x, rfl, hso, hb1⟩; rw [hset]; have HSO := Lib.hid (hso hset); have HB1 := Lib.hid (hb0.out.trans (hb1.mono hb0.out.size)); have H1 := Lib.hid (blk_in h0.out hb1); obtain ⟨n0, n1⟩ := cells2 H1.out; have n2 := lt_of H1.out; clear hb1 hso)
    have HQ1 := Lib.hid (show Below w1.heap.size w1 (w1.alloc (.cells (Array.replicate ll (Value.slice none 0 0)) 46)) from (Below.refl _ _).al _)
    have HQ2 := Lib.hid (show MadeR w.heap.size w1.heap.size ll 0 (w1.alloc (.cells (Array.replicate ll (Value.slice none 0 0)) 46)) (roundL n h) from ⟨[], rfl, by rw [hp1, List.nil_append, List.toArray_replicate]; rfl, ⟨rfl, fun i u xs q1 q2 => by simp at q1, fun i j u u' q1 q2 q3 => by simp at q1⟩⟩)
    generalize (w1.alloc (.cells (Array.replicate ll (Value.slice none 0 0)) 46)) = w2 at HQ1 HQ2 ⊢
    clear MK
    go_loopw [29] (fun i wr => ∃ k : Nat, k ≤ ll ∧ i = .int .i64 k ∧ Hid (MadeR w.heap.size w1.heap.size ll k wr (roundL n h)) ∧ Hid ((n.links.take k).all (fun l => isS (madeL n h l)) = true) ∧ Hid (Below w1.heap.size w1 wr)) (fun i _ => ll - (intOf i).toNat)
    case atStart => exact ⟨0, Nat.zero_le _, rfl, HQ2, Lib.hid rfl, HQ1⟩
    case round =>
      clear HQ1 HQ2
      obtain ⟨k, hk, rfl, HM, HA, HB⟩ := hrel
      have HW := Lib.hid (HB1.out.trans (HB.out.mono HB1.out.size))
      by_cases hlt : k < ll
      case pos =>
        obtain ⟨x, hx⟩ : ∃ x, n.links[k]? = some x := ⟨_, List.getElem?_eq_getElem (by rw [← NL.out]; exact hlt)⟩
        have HX := Lib.hid hx
        have XM := Lib.hid (List.mem_of_getElem? hx)
        obtain ⟨lb, lo, d, hla, hlb, e0, e1, e2, e3, e4, es⟩ := (HL.out.below HW.out).atb hx
        subst hla
        have TS := Lib.hid es
        obtain ⟨va, vc, rfl⟩ := es.shape
        have HRW := Lib.hid (show (roundL n h)[k]? = some (x.tok ++ writL n h x) by unfold roundL; rw [List.getElem?_map, hx]; rfl)
        have HAP := Lib.hid (show appB x.tok (writL n h x) = isS (madeL n h x) from (appB_eq _ _).symm)
        have HR0 := Lib.hid (show appB x.tok (writL n h x) = true → appendStreamR0 x.tok (writL n h x) = x.tok ++ writL n h x from fun e => by unfold appendStreamR0; rw [if_pos e])
        have HFR := Lib.hid (G.out.from XM.out)
        have HNI := Lib.hid (show x.src = outE → writL n h x = [] from fun e => by unfold writL; rw [if_pos e])
        have HYS := Lib.hid (show isS (madeL n h x) = true → ((n.links.take (k + 1)).all (fun l => isS (madeL n h l)) = true) from fun e => lall_step hx HA.out e)
        have HNO := Lib.hid (show isS (madeL n h x) = false → ok = false from fun e => by rw [OKR.out, lall_no (p := fun l => isS (madeL n h l)) hx e, Bool.and_false])
        obtain ⟨wl, hwl⟩ : ∃ z, z = writL n h x := ⟨_, rfl⟩
        obtain ⟨ms, hms⟩ : ∃ z, z = isS (madeL n h x) := ⟨_, rfl⟩
        rw [← hwl] at HRW HAP HR0 HFR HNI
        rw [← hms] at HAP HYS HNO
        obtain ⟨xf, xo, xt, xi, xk⟩ := x
        obtain ⟨kl, hkl⟩ : ∃ z, z = xk.length := ⟨_, rfl⟩
        simp only [] at e0 e1 e2 e3 e4 TS HRW HAP HR0 HFR HNI
        rw [← hkl] at TS e4
        have HBW := Lib.hid ((Below.refl wr.heap.size wr).al (.cells #[.int .i64 xf, .int .i64 xo, .int .i64 xt, .int .i64 xi, .slice va kl vc] 82))
        have HNEW := Lib.hid (hp1 wr (.cells #[.int .i64 xf, .int .i64 xo, .int .i64 xt, .int .i64 xi, .slice va kl vc] 82))
        have IC := Lib.hid (fun (W : World) => iinput_any xf xo xt xi (.slice va kl vc) W)
        clear es hx hwl hms hkl
        by_cases hs : (⟨xf, xo, xt, xi, xk⟩ : Lnk).src = outE
        case pos =>
          obtain rfl := HNI.out hs
          rw [List.append_nil] at HRW HR0
          have hsd : decide ((xf, xo) = outE) = true := decide_eq_true hs
          have CA := Lib.hid (fun (W : World) (hw : Below wr.heap.size wr W) => iappend_any (.slice va kl vc) xk (.slice none 0 0) [] W (TS.out.below hw) ⟨none, 0, rfl, Nat.le_refl _, Nat.zero_le _, fun _ => rfl, .inl rfl⟩)
          rw [HAP.out] at CA HR0
          cases ms with
          | true =>
            rw [HR0.out (by simp)] at CA
            have HMC := Lib.hid (fun (W : World) (hw : Below wr.heap.size wr W) => HM.out.cell hlt hw)
            go_wp2_with (first | (go_at_call 115; with_reducible refine (IC.out _).mono ?_; rintro e w3 ⟨rfl, hb3⟩; rw [hsd]; have B3 := blk_in HNEW.out hb3; obtain ⟨f0, f1, f2, f3, f4⟩ := cells5 B3; have f5 := lt_of B3; have HB3 := Lib.hid (HBW.out.trans (hb3.mono HBW.out.size)); clear hb3 B3) | (go_at_call 116; with_reducible refine (CA.out _ HB3.out).mono ?_; rintro e w4 ⟨r, rfl, ho, hb4⟩; have HO := Lib.hid (ho.mono HB3.out.size); have HB4 := Lib.hid (HB3.out.trans (hb4.mono HB3.out.size)); obtain ⟨q0, q1, q2⟩ := HMC.out _ HB4.out; obtain ⟨ra, rc, rfl⟩ := HO.out.sl.shape; clear ho hb4))
            go_roundw
            case rel =>
              exact ⟨k + 1, by omega, by go_num, Lib.hid (HM.out.step HB4.out HW.out.size hlt HRW.out HO.out), Lib.hid (HYS.out (by simp)), Lib.hid ((HB.out.trans (HB4.out.mono HB.out.size)).setCell (Nat.le_refl _) _)⟩
            case measure => simp [intOf]; omega
          | false =>
            obtain rfl := HNO.out rfl
            go_wp2_with (first | (go_at_call 115; with_reducible refine (IC.out _).mono ?_; rintro e w3 ⟨rfl, hb3⟩; rw [hsd]; have B3 := blk_in HNEW.out hb3; obtain ⟨f0, f1, f2, f3, f4⟩ := cells5 B3; have f5 := lt_of B3; have HB3 := Lib.hid (HBW.out.trans (hb3.mono HBW.out.size)); clear hb3 B3) | (go_at_call 116; with_reducible refine (CA.out _ HB3.out).mono ?_; rintro e w4 ⟨r, rfl, ho, hb4⟩; have HB4 := Lib.hid (HB3.out.trans (hb4.mono HB3.out.size)); clear ho hb4))
            go_ret2
            exact ⟨_, rfl, rowsH_nil _ _, HW.out.trans (HB4.out.mono HW.out.size)⟩
        case neg =>
          obtain ⟨i, o, f1, f2, hi, hrow, _⟩ := HFR.out hs
          subst f1 f2
          have hsd : decide (((i : Int), (o : Int)) = outE) = false := decide_eq_false hs
          have hi' : i < m := by rw [NP.out]; exact hi
          obtain ⟨pb, pc, y, rfl, hpb, hcy, ov, uv, hov, hy⟩ := HSO.out.at hi'
          obtain ⟨wv, hwv, CW⟩ := iwritten_any hov (by have q1 := (G.out.run hi).outsN; have q2 := (okP_parts (G.out.prg hi).2).1; show (runL n h i).1.outs.length ≤ 1000; omega) hrow
          obtain ⟨T, ia, hT, hm⟩ := proc_meth ov (upN_at hset hi')
          rw [hT] at hy
          subst hy
          simp only [Nat.reduceAdd] at hm
          have HWV := Lib.hid hwv
          have HCW := Lib.hid CW
          clear hwv CW hov hT hrow
          have CA := Lib.hid (fun (W : World) (hw : Below wr.heap.size wr W) => iappend_any (.slice va kl vc) xk wv wl W (TS.out.below hw) (HWV.out.below (HB.out.trans (hw.mono HB.out.size))))
          rw [HAP.out] at CA HR0
          have HCY := Lib.hid (fun (W : World) (hw : Below wr.heap.size wr W) => ((HB.out.trans (hw.mono HB.out.size)).cell (p := ⟨pb, i, none⟩) hpb).trans hcy)
          clear hcy
          have hpw : pb < wr.heap.size := Nat.lt_of_lt_of_le hpb HB.out.size
          cases ms with
          | true =>
            rw [HR0.out (by simp)] at CA
            have HMC := Lib.hid (fun (W : World) (hw : Below wr.heap.size wr W) => HM.out.cell hlt hw)
            go_upto_region 10 with (go_at_call 115; with_reducible refine (IC.out _).mono ?_; rintro e w3 ⟨rfl, hb3⟩; rw [hsd]; have B3 := blk_in HNEW.out hb3; obtain ⟨f0, f1, f2, f3, f4⟩ := cells5 B3; have f5 := lt_of B3; have HB3 := Lib.hid (HBW.out.trans (hb3.mono HBW.out.size)); have g0 := HCY.out _ HB3.out; have G1 : Hid (∀ z : Nat, Calls Try.prog 182 #[ov, .int .i64 (o : Int)] (w3.drewN z) fun e w' => e = .returned wv ∧ w' = w3.drewN z) := Lib.hid (fun (z : Nat) => (HCW.out (w3.drewN z) (Below.toDraw (HB.out.trans (HB3.out.mono HB.out.size)) z)).mono fun _ _ hh => ⟨hh.1, hh.2.symm⟩); have g2 := Nat.lt_of_lt_of_le hpw HB3.out.size; clear hb3 B3)
            go_quiet ((go_at_call 182; exact Calls.quiet_of_same (G1.out _)))
            go_wp2_with (go_at_call 116; with_reducible refine (CA.out _ (Below.toDraw HB3.out _)).mono ?_; rintro e w4 ⟨r, rfl, ho, hb4⟩; have HO := Lib.hid (ho.mono (Below.toDraw HB3.out _).size); have HB4 := Lib.hid ((Below.toDraw HB3.out _).trans (hb4.mono (Below.toDraw HB3.out _).size)); obtain ⟨q0, q1, q2⟩ := HMC.out _ HB4.out; obtain ⟨ra, rc, rfl⟩ := HO.out.sl.shape; clear ho hb4)
            go_roundw
            case rel =>
              rw [List.length_append] at HO
              exact ⟨k + 1, by omega, by go_num, Lib.hid (HM.out.step HB4.out HW.out.size hlt HRW.out HO.out), Lib.hid (HYS.out (by simp)), Lib.hid ((HB.out.trans (HB4.out.mono HB.out.size)).setCell (Nat.le_refl _) _)⟩
            case measure => simp [intOf]; omega
          | false =>
            obtain rfl := HNO.out rfl
            go_upto_region 10 with (go_at_call 115; with_reducible refine (IC.out _).mono ?_; rintro e w3 ⟨rfl, hb3⟩; rw [hsd]; have B3 := blk_in HNEW.out hb3; obtain ⟨f0, f1, f2, f3, f4⟩ := cells5 B3; have f5 := lt_of B3; have HB3 := Lib.hid (HBW.out.trans (hb3.mono HBW.out.size)); have g0 := HCY.out _ HB3.out; have G1 : Hid (∀ z : Nat, Calls Try.prog 182 #[ov, .int .i64 (o : Int)] (w3.drewN z) fun e w' => e = .returned wv ∧ w' = w3.drewN z) := Lib.hid (fun (z : Nat) => (HCW.out (w3.drewN z) (Below.toDraw (HB.out.trans (HB3.out.mono HB.out.size)) z)).mono fun _ _ hh => ⟨hh.1, hh.2.symm⟩); have g2 := Nat.lt_of_lt_of_le hpw HB3.out.size; clear hb3 B3)
            go_quiet ((go_at_call 182; exact Calls.quiet_of_same (G1.out _)))
            go_wp2_with (go_at_call 116; with_reducible refine (CA.out _ (Below.toDraw HB3.out _)).mono ?_; rintro e w4 ⟨r, rfl, ho, hb4⟩; have HB4 := Lib.hid ((Below.toDraw HB3.out _).trans (hb4.mono (Below.toDraw HB3.out _).size)); clear ho hb4)
            go_ret2
            exact ⟨_, rfl, rowsH_nil _ _, HW.out.trans (HB4.out.mono HW.out.size)⟩
      case neg =>
        obtain rfl : k = ll := by omega
        obtain rfl : ok = true := (by rw [OKR.out, hset]; rw [List.take_of_length_le (by rw [← NL.out]; exact Nat.le_refl _)] at HA; rw [HA.out]; rfl)
        go_wp2_with fail
        go_ret2
        exact ⟨_, rfl, HM.out.rows HB1.out.size (by unfold roundL; rw [List.length_map]; exact NL.out.symm) (by omega), HW.out⟩

set_option maxRecDepth 100000 in
set_option maxHeartbeats 4000000 in
theorem irnd_any (v u : Value) (n : Net) (h : List (List Int)) (w : World) (hv : NetV w v n) (hu : SlR w u h) :
    Calls Try.prog 20 #[v, u] w fun e w' => ∃ r, e = .returned (.tuple #[r, .bool (roundOfR1 n h)]) ∧ RowsH w.heap.size w'.heap.size w' r (roundOfR0 n h) ∧ Below w.heap.size w w' := by
  obtain ⟨pv, lv, rfl, hps, hls⟩ := hv
  have HV := Lib.hid (show NetV w (.agg #[pv, lv]) n from ⟨pv, lv, rfl, hps, hls⟩)
  have HU := Lib.hid hu
  obtain ⟨pa, pcap, rfl⟩ := hps.shape
  obtain ⟨la, lcap, rfl⟩ := hls.shape
  obtain ⟨m, hm⟩ : ∃ z, z = n.progs.length := ⟨_, rfl⟩
  obtain ⟨ll, hll⟩ : ∃ z, z = n.links.length := ⟨_, rfl⟩
  rw [← hm, ← hll] at HV ⊢
  clear hps hls hu hm hll
  have h0 := Lib.hid (hp1 w (.cells #[.slice pa m pcap, .slice la ll lcap] 34))
  have hb0 := Lib.hid ((Below.refl w.heap.size w).al (.cells #[.slice pa m pcap, .slice la ll lcap] 34))
  have CH := Lib.hid (fun (W : World) (hw : Below w.heap.size w W) => ihist_any (.agg #[.slice pa m pcap, .slice la ll lcap]) u n h W (HV.out.below hw) (HU.out.below hw))
  cases hh : areHistoriesR0 n h with
  | false =>
    have e1 : roundOfR1 n h = false := by unfold roundOfR1; rw [hh]; rfl
    have e0 : roundOfR0 n h = [] := by unfold roundOfR0; rw [e1]; rfl
    rw [e0, e1]
    rw [hh] at CH
    go_enter Try.func20, Try.ntmps20
    go_wp2_with (go_at_call 64; with_reducible refine (CH.out _ hb0.out).mono ?_; rintro e w1 ⟨rfl, hb1⟩; have HB1 := Lib.hid (hb0.out.trans (hb1.mono hb0.out.size)); clear hb1)
    go_ret2
    exact ⟨_, rfl, rowsH_nil _ _, HB1.out⟩
  | true =>
    have G := hist_good hh
    have CM := Lib.hid (fun (W : World) (hw : Below w.heap.size w W) => imade_any (.agg #[.slice pa m pcap, .slice la ll lcap]) u n h W (HV.out.below hw) (HU.out.below hw) G)
    have e1 : roundOfR1 n h = okR n h := by unfold roundOfR1; rw [hh]; rfl
    have e0 : roundOfR0 n h = madeR n h := by unfold roundOfR0 madeR; rw [e1]
    rw [e0, e1]
    obtain ⟨ok, hok⟩ : ∃ z, z = okR n h := ⟨_, rfl⟩
    obtain ⟨mr, hmr⟩ : ∃ z, z = madeR n h := ⟨_, rfl⟩
    rw [← hok, ← hmr] at CM ⊢
    rw [hh] at CH
    clear hh e0 e1 hok hmr G
    go_enter Try.func20, Try.ntmps20
    go_wp2_with (first | (go_at_call 64; with_reducible refine (CH.out _ hb0.out).mono ?_; rintro e w1 ⟨rfl, hb1⟩; have HB1 := Lib.hid (hb0.out.trans (hb1.mono hb0.out.size)); have H1 := blk_in h0.out hb1; obtain ⟨f0, f1⟩ := cells2 H1; have f2 := lt_of H1; clear hb1 H1) | (go_at_call 65; with_reducible refine (CM.out _ HB1.out).mono ?_; rintro e w2 ⟨r, rfl, hr, hb2⟩; have HR := Lib.hid hr; have HB2 := Lib.hid (HB1.out.trans (hb2.mono HB1.out.size)); clear hr hb2))
    go_ret2
    exact ⟨_, rfl, OutH.mono HR.out HB1.out.size (Nat.le_refl _), HB2.out⟩
end Go.Proofs.Ytjphamgkigekkaa
