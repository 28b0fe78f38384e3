/-
  Rows of programs and of links that lie on what others hold. No statement of the seat is proved here.
  slices.Concat of two slices. No statement of the seat is proved here.
  Networks that lose a process: the mathematics. No statement of the seat is proved here.
  Sub-slices; ends of links; the successor of a process that is dropped. No statement of the seat is proved here.
-/
import Derived.Test.YtkeoefbkeommhaaNetCC
import Derived.Test.YtkeoefbkeommhaaNhj
import Derived.Test.YtkeoefbkeommhaaNetPM
import Derived.Deep.CutRange
namespace Go.Proofs.Ytkeoefbkeommhaa
open Go.RowKit

/-- A row of the call's own, whose slots hold what reads in the world w0. -/
def RowP (lo : Nat) (w0 w : World) (v : Value) (xs : List Prg) : Prop := ∃ us, us.length = xs.length ∧ w.ownsRow lo 79 3 v xs.length (cellsP xs us) ∧ ∀ (i : Nat) (u : Value) (p : Prg), us[i]? = some u → xs[i]? = some p → SlI w0 u p.code
theorem RowP.nil (lo : Nat) (w0 w : World) : RowP lo w0 w (.slice none 0 0) [] := ⟨[], rfl, World.ownsRow_nil _ _ _ _, fun i u p h => by simp at h⟩
theorem RowP.below {lo : Nat} {w0 w w' : World} {v : Value} {xs : List Prg} (h : RowP lo w0 w v xs) (hb : Below w.heap.size w w') : RowP lo w0 w' v xs := by
  obtain ⟨us, a, b, c⟩ := h; exact ⟨us, a, row_below b hb, c⟩
theorem RowP.mono {lo lo' : Nat} {w0 w : World} {v : Value} {xs : List Prg} (h : RowP lo w0 w v xs) (hl : lo' ≤ lo) : RowP lo' w0 w v xs := by
  obtain ⟨us, a, b, c⟩ := h; exact ⟨us, a, row_mono b hl, c⟩
theorem RowP.up {lo : Nat} {w0 w1 w : World} {v : Value} {xs : List Prg} (h : RowP lo w0 w v xs) (hb : Below w0.heap.size w0 w1) : RowP lo w1 w v xs := by
  obtain ⟨us, a, b, c⟩ := h; exact ⟨us, a, b, fun i u p hu hp => (c i u p hu hp).below hb⟩
theorem RowP.shape {lo : Nat} {w0 w : World} {v : Value} {xs : List Prg} (h : RowP lo w0 w v xs) : ∃ a c, v = .slice a xs.length c := by
  obtain ⟨us, a, b, c⟩ := h; exact row_shape b
theorem RowP.lt {lo : Nat} {w0 w : World} {v : Value} {xs : List Prg} (h : RowP lo w0 w v xs) : ∀ q, v.ownBlock = some q → lo ≤ q ∧ q < w.heap.size := by
  obtain ⟨us, a, b, c⟩ := h; exact World.ownsRow.lt b
theorem RowP.out {lo l2 h2 : Nat} {w0 w w' : World} {v : Value} {xs : List Prg} (h : RowP lo w0 w v xs) (ho : Out l2 h2 w w') (hd : ∀ q, v.ownBlock = some q → q < l2 ∨ h2 ≤ q) : RowP lo w0 w' v xs := by
  obtain ⟨us, a, b, c⟩ := h; exact ⟨us, a, row_out b ho hd, c⟩
theorem RowP.snoc {lo : Nat} {w0 w' : World} {v' x : Value} {xs : List Prg} {us : List Value} {a : Prg} (h1 : us.length = xs.length) (hs : ∀ (i : Nat) (u : Value) (p : Prg), us[i]? = some u → xs[i]? = some p → SlI w0 u p.code) (hx : SlI w0 x a.code)
    (hown : w'.ownsRow lo 79 3 v' (xs.length + 1) (cellsP xs us ++ [.int .i64 a.ins, .int .i64 a.outs, x])) : RowP lo w0 w' v' (xs ++ [a]) := by
  refine ⟨us ++ [x], by simp [h1], ?_, fun i u p hu hp => ?_⟩
  · rw [cellsP_snoc _ _ _ _ h1.symm, List.length_append]; exact hown
  · by_cases hi : i < xs.length
    · rw [List.getElem?_append_left (by omega)] at hu hp
      exact hs i u p hu hp
    · rw [List.getElem?_append_right (by omega)] at hu hp
      have h0 : i - xs.length = 0 := by
        have := (List.getElem?_eq_some_iff.1 hp).1
        simp at this
        omega
      rw [h1, h0] at hu
      rw [h0] at hp
      simp at hu hp
      subst hu
      subst hp
      exact hx
theorem RowP.app {lo : Nat} {w0 w' : World} {v' : Value} {xs ys : List Prg} {us vs : List Value} (h1 : us.length = xs.length) (hs : ∀ (i : Nat) (u : Value) (p : Prg), us[i]? = some u → xs[i]? = some p → SlI w0 u p.code) (h2 : vs.length = ys.length) (ht : ∀ (i : Nat) (u : Value) (p : Prg), vs[i]? = some u → ys[i]? = some p → SlI w0 u p.code)
    (hown : w'.ownsRow lo 79 3 v' (xs.length + ys.length) (cellsP xs us ++ cellsP ys vs)) : RowP lo w0 w' v' (xs ++ ys) := by
  refine ⟨us ++ vs, by simp [h1, h2], ?_, fun i u p hu hp => ?_⟩
  · rw [cellsP_app _ _ _ _ h1.symm, List.length_append]; exact hown
  · by_cases hi : i < xs.length
    · rw [List.getElem?_append_left (by omega)] at hu hp
      exact hs i u p hu hp
    · rw [List.getElem?_append_right (by omega)] at hu hp
      rw [h1] at hu
      exact ht _ u p hu hp
/-- A row of the call's own, whose slots hold what reads in the world w0. -/
def RowL (lo : Nat) (w0 w : World) (v : Value) (xs : List Lnk) : Prop := ∃ us, us.length = xs.length ∧ w.ownsRow lo 68 5 v xs.length (cellsL xs us) ∧ ∀ (i : Nat) (u : Value) (p : Lnk), us[i]? = some u → xs[i]? = some p → Sl w0 u p.tok
theorem RowL.nil (lo : Nat) (w0 w : World) : RowL lo w0 w (.slice none 0 0) [] := ⟨[], rfl, World.ownsRow_nil _ _ _ _, fun i u p h => by simp at h⟩
theorem RowL.below {lo : Nat} {w0 w w' : World} {v : Value} {xs : List Lnk} (h : RowL lo w0 w v xs) (hb : Below w.heap.size w w') : RowL lo w0 w' v xs := by
  obtain ⟨us, a, b, c⟩ := h; exact ⟨us, a, row_below b hb, c⟩
theorem RowL.mono {lo lo' : Nat} {w0 w : World} {v : Value} {xs : List Lnk} (h : RowL lo w0 w v xs) (hl : lo' ≤ lo) : RowL lo' w0 w v xs := by
  obtain ⟨us, a, b, c⟩ := h; exact ⟨us, a, row_mono b hl, c⟩
theorem RowL.up {lo : Nat} {w0 w1 w : World} {v : Value} {xs : List Lnk} (h : RowL lo w0 w v xs) (hb : Below w0.heap.size w0 w1) : RowL lo w1 w v xs := by
  obtain ⟨us, a, b, c⟩ := h; exact ⟨us, a, b, fun i u p hu hp => (c i u p hu hp).below hb⟩
theorem RowL.shape {lo : Nat} {w0 w : World} {v : Value} {xs : List Lnk} (h : RowL lo w0 w v xs) : ∃ a c, v = .slice a xs.length c := by
  obtain ⟨us, a, b, c⟩ := h; exact row_shape b
theorem RowL.lt {lo : Nat} {w0 w : World} {v : Value} {xs : List Lnk} (h : RowL lo w0 w v xs) : ∀ q, v.ownBlock = some q → lo ≤ q ∧ q < w.heap.size := by
  obtain ⟨us, a, b, c⟩ := h; exact World.ownsRow.lt b
theorem RowL.out {lo l2 h2 : Nat} {w0 w w' : World} {v : Value} {xs : List Lnk} (h : RowL lo w0 w v xs) (ho : Out l2 h2 w w') (hd : ∀ q, v.ownBlock = some q → q < l2 ∨ h2 ≤ q) : RowL lo w0 w' v xs := by
  obtain ⟨us, a, b, c⟩ := h; exact ⟨us, a, row_out b ho hd, c⟩
theorem RowL.snoc {lo : Nat} {w0 w' : World} {v' x : Value} {xs : List Lnk} {us : List Value} {a : Lnk} (h1 : us.length = xs.length) (hs : ∀ (i : Nat) (u : Value) (p : Lnk), us[i]? = some u → xs[i]? = some p → Sl w0 u p.tok) (hx : Sl w0 x a.tok)
    (hown : w'.ownsRow lo 68 5 v' (xs.length + 1) (cellsL xs us ++ [.int .i64 a.frm, .int .i64 a.out, .int .i64 a.to, .int .i64 a.inn, x])) : RowL lo w0 w' v' (xs ++ [a]) := by
  refine ⟨us ++ [x], by simp [h1], ?_, fun i u p hu hp => ?_⟩
  · rw [cellsL_snoc _ _ _ _ h1.symm, List.length_append]; exact hown
  · by_cases hi : i < xs.length
    · rw [List.getElem?_append_left (by omega)] at hu hp
      exact hs i u p hu hp
    · rw [List.getElem?_append_right (by omega)] at hu hp
      have h0 : i - xs.length = 0 := by
        have := (List.getElem?_eq_some_iff.1 hp).1
        simp at this
        omega
      rw [h1, h0] at hu
      rw [h0] at hp
      simp at hu hp
      subst hu
      subst hp
      exact hx
theorem RowL.app {lo : Nat} {w0 w' : World} {v' : Value} {xs ys : List Lnk} {us vs : List Value} (h1 : us.length = xs.length) (hs : ∀ (i : Nat) (u : Value) (p : Lnk), us[i]? = some u → xs[i]? = some p → Sl w0 u p.tok) (h2 : vs.length = ys.length) (ht : ∀ (i : Nat) (u : Value) (p : Lnk), vs[i]? = some u → ys[i]? = some p → Sl w0 u p.tok)
    (hown : w'.ownsRow lo 68 5 v' (xs.length + ys.length) (cellsL xs us ++ cellsL ys vs)) : RowL lo w0 w' v' (xs ++ ys) := by
  refine ⟨us ++ vs, by simp [h1, h2], ?_, fun i u p hu hp => ?_⟩
  · rw [cellsL_app _ _ _ _ h1.symm, List.length_append]; exact hown
  · by_cases hi : i < xs.length
    · rw [List.getElem?_append_left (by omega)] at hu hp
      exact hs i u p hu hp
    · rw [List.getElem?_append_right (by omega)] at hu hp
      rw [h1] at hu
      exact ht _ u p hu hp
theorem RowP.slP {lo : Nat} {w0 w : World} {v : Value} {xs : List Prg} (h : RowP lo w0 w v xs) (hb : Below w0.heap.size w0 w) : SlP w v xs := by
  obtain ⟨us, a, b, c⟩ := h; exact SlP.ofRow b rfl a (fun i u p hu hp => (c i u p hu hp).below hb)
theorem RowL.slL {lo : Nat} {w0 w : World} {v : Value} {xs : List Lnk} (h : RowL lo w0 w v xs) (hb : Below w0.heap.size w0 w) (hw : ∀ l ∈ xs, wfL l) : SlL w v xs := by
  obtain ⟨us, a, b, c⟩ := h; exact SlL.ofRow b rfl a (fun i u p hu hp => (c i u p hu hp).below hb) hw

theorem below_grownHi {B : Nat} {a w w' : World} {row : Option Nat} (h : Below B a w) (hB : B ≤ w.heap.size) (hg : w.grownBy w' row) (hr : ∀ q, row = some q → B ≤ q) : Below B a w' :=
  ⟨hg.os.trans h.os, hg.tape.trans h.tape, hg.output.trans h.output, Nat.le_trans h.size hg.size, fun k hk => (hg.block k (by omega) (fun e => by have := hr k e.symm; omega)).trans (h.block k hk)⟩

set_option maxRecDepth 100000 in
set_option maxHeartbeats 8000000 in
theorem icatP_any (gb : Nat) (v1 v2 : Value) (xs1 xs2 : List Prg) (w0 w : World) (hg : w.heap[gb]? = some (.cells #[v1, v2] 28)) (h1 : SlP w0 v1 xs1) (h2 : SlP w0 v2 xs2) (hb0 : Below w0.heap.size w0 w) (hl : xs1.length ≤ 1000 ∧ xs2.length ≤ 1000) :
    Calls Try.prog 64 #[.slice (some ⟨gb, 0, none⟩) 2 2] w fun e w' => ∃ v, e = .returned v ∧ RowP w.heap.size w0 w' v (xs1 ++ xs2) ∧ Below w.heap.size w w' := by
  obtain ⟨a1, c1, rfl⟩ := h1.shape
  obtain ⟨a2, c2, rfl⟩ := h2.shape
  obtain ⟨_, hn1, us1, hus1, hsl1, hc1, ho1⟩ := h1.cellsOf
  obtain ⟨_, hn2, us2, hus2, hsl2, hc2, ho2⟩ := h2.cellsOf
  obtain ⟨n1, e1⟩ : ∃ n, n = xs1.length := ⟨_, rfl⟩
  obtain ⟨n2, e2⟩ : ∃ n, n = xs2.length := ⟨_, rfl⟩
  rw [← e1] at hn1 hg hus1 hl
  rw [← e2] at hn2 hg hus2 hl
  have HN1 := Lib.hid hn1
  have HN2 := Lib.hid hn2
  clear hn1 hn2
  have HC1 := Lib.hid (fun (W : World) (hb : Below w.heap.size w W) ad e j y hy => ((hb0.trans (hb.mono hb0.size)).cell (World.block_lt_of_cell? w0 _ (hc1 ad e j y hy))).trans (hc1 ad e j y hy))
  have HC2 := Lib.hid (fun (W : World) (hb : Below w.heap.size w W) ad e j y hy => ((hb0.trans (hb.mono hb0.size)).cell (World.block_lt_of_cell? w0 _ (hc2 ad e j y hy))).trans (hc2 ad e j y hy))
  have HLN1 := Lib.hid (show (cellsP xs1 us1).length = n1 * 3 by rw [cellsP_len _ _ (by omega), hus1])
  have HLN2 := Lib.hid (show (cellsP xs2 us2).length = n2 * 3 by rw [cellsP_len _ _ (by omega), hus2])
  have H1 := Lib.hid (cellsP_one xs1 us1 ho1)
  have H2 := Lib.hid (cellsP_one xs2 us2 ho2)
  have HFIN := Lib.hid (show ∃ us, us.length = n1 + n2 ∧ (∀ (i : Nat) (u : Value) (p : Prg), us[i]? = some u → (xs1 ++ xs2)[i]? = some p → SlI w0 u p.code) ∧ cellsP xs1 us1 ++ cellsP xs2 us2 = cellsP (xs1 ++ xs2) us from ⟨us1 ++ us2, by rw [List.length_append]; omega, fun i u p hu hp => by
    by_cases hi : i < n1
    · rw [List.getElem?_append_left (by omega)] at hu hp
      exact hsl1 i u p hu hp
    · rw [List.getElem?_append_right (by omega)] at hu hp
      rw [hus1] at hu
      rw [← e1] at hp
      exact hsl2 _ u p hu hp, (cellsP_app xs1 xs2 us1 us2 (by omega)).symm⟩)
  have HG := Lib.hid hg
  have gl := lt_of hg
  obtain ⟨g0, g1⟩ := cells2 hg
  obtain ⟨t, ht⟩ : ∃ t, t = n1 + n2 := ⟨_, rfl⟩
  have HT := Lib.hid ht
  have HLT := Lib.hid (show (xs1 ++ xs2).length = t by rw [List.length_append, ← e1, ← e2]; exact ht.symm)
  have ht2 : t ≤ 2000 := by omega
  have CG := Lib.hid (fun (W : World) => igrowP_any t W (by omega))
  have d1 : decide ((n1 : Int) < 0) = false := decide_eq_false (by omega)
  have d2 : decide ((t : Int) < 0) = false := decide_eq_false (by omega)
  have HW0 := Lib.hid (show wrap64 (n1 : Int) = (n1 : Int) from IntWalk.wrap64_in _ (by omega))
  have HW1 := Lib.hid (show wrap64 ((0 : Int) + (n1 : Int)) = (n1 : Int) by rw [Int.zero_add]; exact HW0.out)
  have HW2 := Lib.hid (show wrap64 ((n1 : Int) + (n2 : Int)) = (t : Int) by rw [show (n1 : Int) + (n2 : Int) = (t : Int) by omega]; exact IntWalk.wrap64_in _ (by omega))
  obtain ⟨i0, hi, hz0, hz1, hz2⟩ := infoP_parts
  have HBD := Lib.hid (And.intro hl ht2)
  have hn1b := hl.1
  have hn2b := hl.2
  clear hg hsl1 hsl2 hc1 hc2 ho1 ho2 h1 h2 hus1 hus2 e1 e2 hl ht
  go_enter Try.func64, Try.ntmps64
  go_wp2_with fail
  go_loopw [11, 3] (fun i s wr => ((i = .int .i64 0 ∧ s = .int .i64 0) ∨ (i = .int .i64 1 ∧ s = .int .i64 (n1 : Int)) ∨ (i = .int .i64 2 ∧ s = .int .i64 (t : Int))) ∧ w = wr) (fun i _ _ => 2 - (intOf i).toNat)
  case atStart => exact ⟨.inl ⟨rfl, rfl⟩, rfl⟩
  case round =>
    obtain ⟨hrel, hw⟩ := hrel
    subst hw
    rcases hrel with ⟨rfl, rfl⟩ | ⟨rfl, rfl⟩ | ⟨rfl, rfl⟩
    · have hw0 := HW0.out
      have hw1 := HW1.out
      go_wp2_with fail
      go_roundw
      case rel => exact ⟨.inr (.inl ⟨rfl, rfl⟩), trivial⟩
      case measure => simp [intOf]
    · have hw2 := HW2.out
      go_wp2_with fail
      go_roundw
      case rel => exact ⟨.inr (.inr ⟨rfl, by rw [HT.out, Int.natCast_add]⟩), trivial⟩
      case measure => simp [intOf]
    · go_wp2_with (go_at_call 125; refine (CG.out _).mono ?_; rintro e w3 ⟨v3, rfl, ho3, hb3⟩; have HO3 := Lib.hid ho3; have HB3 := Lib.hid hb3; clear ho3 hb3)
      go_loopw [27, 6] (fun i s wr => (((i = .int .i64 0) ∧ Hid (wr.ownsRow w.heap.size 79 3 s 0 [])) ∨ ((i = .int .i64 1) ∧ Hid (wr.ownsRow w.heap.size 79 3 s n1 (cellsP xs1 us1))) ∨ ((i = .int .i64 2) ∧ Hid (wr.ownsRow w.heap.size 79 3 s t (cellsP xs1 us1 ++ cellsP xs2 us2)))) ∧ Hid (Below w.heap.size w wr)) (fun i _ _ => 2 - (intOf i).toNat)
      case atStart => exact ⟨.inl ⟨rfl, HO3⟩, HB3⟩
      case round =>
        clear g0 g1 gl
        obtain ⟨hrel, HB⟩ := hrel
        have gg := blk_in HG.out HB.out
        obtain ⟨g0, g1⟩ := cells2 gg
        have gl := lt_of gg
        clear gg
        rcases hrel with ⟨rfl, HO⟩ | ⟨rfl, HO⟩ | ⟨rfl, HO⟩
        · obtain ⟨sa, sc, rfl⟩ := row_shape HO.out
          go_wp2_with (at_builtin; refine wpList_app_src (ST := 28) (T := 79) (sz := 3) (bytes := 40) (z := .agg #[.int .i64 0, .int .i64 0, .slice none 0 0]) (i0 := i0) Try.underlying28 hi hz0 hz1 hz2 rfl (by decide) rfl (.tmp 31) (.tmp 32) rfl rfl (lo := w.heap.size) (v := .slice sa 0 sc) (n := 0) (m := n1) (cap := c1) (a := a1) (L := []) (M := cellsP xs1 us1) rfl rfl HO.out HN1.out (HC1.out _ HB.out) HLN1.out H1.out (by unfold maxLen; omega) (by omega) HB.out.size ?_; intro v' W6 hown hgrow hat; have HO6 := Lib.hid hown; have HB6 := Lib.hid (below_grownHi HB.out HB.out.size hgrow (fun q e => (World.ownsRow.lt HO.out q e).1)); clear hown hgrow hat)
          go_roundw
          case rel => exact ⟨.inr (.inl ⟨rfl, by have q := HO6.out; rw [Nat.zero_add, List.nil_append] at q; exact Lib.hid q⟩), HB6⟩
          case measure => simp [intOf]
        · obtain ⟨sa, sc, rfl⟩ := row_shape HO.out
          go_wp2_with (at_builtin; refine wpList_app_src (ST := 28) (T := 79) (sz := 3) (bytes := 40) (z := .agg #[.int .i64 0, .int .i64 0, .slice none 0 0]) (i0 := i0) Try.underlying28 hi hz0 hz1 hz2 rfl (by decide) rfl (.tmp 31) (.tmp 32) rfl rfl (lo := w.heap.size) (v := .slice sa n1 sc) (n := n1) (m := n2) (cap := c2) (a := a2) (L := (cellsP xs1 us1)) (M := cellsP xs2 us2) rfl rfl HO.out HN2.out (HC2.out _ HB.out) HLN2.out H2.out (by unfold maxLen; omega) (by omega) HB.out.size ?_; intro v' W6 hown hgrow hat; have HO6 := Lib.hid hown; have HB6 := Lib.hid (below_grownHi HB.out HB.out.size hgrow (fun q e => (World.ownsRow.lt HO.out q e).1)); clear hown hgrow hat)
          go_roundw
          case rel => exact ⟨.inr (.inr ⟨rfl, by have q := HO6.out; rw [← HT.out] at q; exact Lib.hid q⟩), HB6⟩
          case measure => simp [intOf]
        · go_wp2_with fail
          go_ret
          obtain ⟨us, f1, f2, f3⟩ := HFIN.out
          have hln := HLT.out
          refine ⟨_, rfl, ⟨us, by rw [hln, HT.out]; exact f1, ?_, f2⟩, HB.out⟩
          rw [hln, ← f3]
          exact HO.out

set_option maxRecDepth 100000 in
set_option maxHeartbeats 8000000 in
theorem icatL_any (gb : Nat) (v1 v2 : Value) (xs1 xs2 : List Lnk) (w0 w : World) (hg : w.heap[gb]? = some (.cells #[v1, v2] 29)) (h1 : SlL w0 v1 xs1) (h2 : SlL w0 v2 xs2) (hb0 : Below w0.heap.size w0 w) (hl : xs1.length ≤ 1000 ∧ xs2.length ≤ 1000) :
    Calls Try.prog 65 #[.slice (some ⟨gb, 0, none⟩) 2 2] w fun e w' => ∃ v, e = .returned v ∧ RowL w.heap.size w0 w' v (xs1 ++ xs2) ∧ Below w.heap.size w w' := by
  obtain ⟨a1, c1, rfl⟩ := h1.shape
  obtain ⟨a2, c2, rfl⟩ := h2.shape
  obtain ⟨_, hn1, us1, hus1, hsl1, hc1, ho1⟩ := h1.cellsOf
  obtain ⟨_, hn2, us2, hus2, hsl2, hc2, ho2⟩ := h2.cellsOf
  obtain ⟨n1, e1⟩ : ∃ n, n = xs1.length := ⟨_, rfl⟩
  obtain ⟨n2, e2⟩ : ∃ n, n = xs2.length := ⟨_, rfl⟩
  rw [← e1] at hn1 hg hus1 hl
  rw [← e2] at hn2 hg hus2 hl
  have HN1 := Lib.hid hn1
  have HN2 := Lib.hid hn2
  clear hn1 hn2
  have HC1 := Lib.hid (fun (W : World) (hb : Below w.heap.size w W) ad e j y hy => ((hb0.trans (hb.mono hb0.size)).cell (World.block_lt_of_cell? w0 _ (hc1 ad e j y hy))).trans (hc1 ad e j y hy))
  have HC2 := Lib.hid (fun (W : World) (hb : Below w.heap.size w W) ad e j y hy => ((hb0.trans (hb.mono hb0.size)).cell (World.block_lt_of_cell? w0 _ (hc2 ad e j y hy))).trans (hc2 ad e j y hy))
  have HLN1 := Lib.hid (show (cellsL xs1 us1).length = n1 * 5 by rw [cellsL_len _ _ (by omega), hus1])
  have HLN2 := Lib.hid (show (cellsL xs2 us2).length = n2 * 5 by rw [cellsL_len _ _ (by omega), hus2])
  have H1 := Lib.hid (cellsL_one xs1 us1 ho1)
  have H2 := Lib.hid (cellsL_one xs2 us2 ho2)
  have HFIN := Lib.hid (show ∃ us, us.length = n1 + n2 ∧ (∀ (i : Nat) (u : Value) (p : Lnk), us[i]? = some u → (xs1 ++ xs2)[i]? = some p → Sl w0 u p.tok) ∧ cellsL xs1 us1 ++ cellsL xs2 us2 = cellsL (xs1 ++ xs2) us from ⟨us1 ++ us2, by rw [List.length_append]; omega, fun i u p hu hp => by
    by_cases hi : i < n1
    · rw [List.getElem?_append_left (by omega)] at hu hp
      exact hsl1 i u p hu hp
    · rw [List.getElem?_append_right (by omega)] at hu hp
      rw [hus1] at hu
      rw [← e1] at hp
      exact hsl2 _ u p hu hp, (cellsL_app xs1 xs2 us1 us2 (by omega)).symm⟩)
  have HG := Lib.hid hg
  have gl := lt_of hg
  obtain ⟨g0, g1⟩ := cells2 hg
  obtain ⟨t, ht⟩ : ∃ t, t = n1 + n2 := ⟨_, rfl⟩
  have HT := Lib.hid ht
  have HLT := Lib.hid (show (xs1 ++ xs2).length = t by rw [List.length_append, ← e1, ← e2]; exact ht.symm)
  have ht2 : t ≤ 2000 := by omega
  have CG := Lib.hid (fun (W : World) => igrowL_any t W (by omega))
  have d1 : decide ((n1 : Int) < 0) = false := decide_eq_false (by omega)
  have d2 : decide ((t : Int) < 0) = false := decide_eq_false (by omega)
  have HW0 := Lib.hid (show wrap64 (n1 : Int) = (n1 : Int) from IntWalk.wrap64_in _ (by omega))
  have HW1 := Lib.hid (show wrap64 ((0 : Int) + (n1 : Int)) = (n1 : Int) by rw [Int.zero_add]; exact HW0.out)
  have HW2 := Lib.hid (show wrap64 ((n1 : Int) + (n2 : Int)) = (t : Int) by rw [show (n1 : Int) + (n2 : Int) = (t : Int) by omega]; exact IntWalk.wrap64_in _ (by omega))
  obtain ⟨i0, hi, hz0, hz1, hz2⟩ := infoL_parts
  have HBD := Lib.hid (And.intro hl ht2)
  have hn1b := hl.1
  have hn2b := hl.2
  clear hg hsl1 hsl2 hc1 hc2 ho1 ho2 h1 h2 hus1 hus2 e1 e2 hl ht
  go_enter Try.func65, Try.ntmps65
  go_wp2_with fail
  go_loopw [11, 3] (fun i s wr => ((i = .int .i64 0 ∧ s = .int .i64 0) ∨ (i = .int .i64 1 ∧ s = .int .i64 (n1 : Int)) ∨ (i = .int .i64 2 ∧ s = .int .i64 (t : Int))) ∧ w = wr) (fun i _ _ => 2 - (intOf i).toNat)
  case atStart => exact ⟨.inl ⟨rfl, rfl⟩, rfl⟩
  case round =>
    obtain ⟨hrel, hw⟩ := hrel
    subst hw
    rcases hrel with ⟨rfl, rfl⟩ | ⟨rfl, rfl⟩ | ⟨rfl, rfl⟩
    · have hw0 := HW0.out
      have hw1 := HW1.out
      go_wp2_with fail
      go_roundw
      case rel => exact ⟨.inr (.inl ⟨rfl, rfl⟩), trivial⟩
      case measure => simp [intOf]
    · have hw2 := HW2.out
      go_wp2_with fail
      go_roundw
      case rel => exact ⟨.inr (.inr ⟨rfl, by rw [HT.out, Int.natCast_add]⟩), trivial⟩
      case measure => simp [intOf]
    · go_wp2_with (go_at_call 126; refine (CG.out _).mono ?_; rintro e w3 ⟨v3, rfl, ho3, hb3⟩; have HO3 := Lib.hid ho3; have HB3 := Lib.hid hb3; clear ho3 hb3)
      go_loopw [27, 6] (fun i s wr => (((i = .int .i64 0) ∧ Hid (wr.ownsRow w.heap.size 68 5 s 0 [])) ∨ ((i = .int .i64 1) ∧ Hid (wr.ownsRow w.heap.size 68 5 s n1 (cellsL xs1 us1))) ∨ ((i = .int .i64 2) ∧ Hid (wr.ownsRow w.heap.size 68 5 s t (cellsL xs1 us1 ++ cellsL xs2 us2)))) ∧ Hid (Below w.heap.size w wr)) (fun i _ _ => 2 - (intOf i).toNat)
      case atStart => exact ⟨.inl ⟨rfl, HO3⟩, HB3⟩
      case round =>
        clear g0 g1 gl
        obtain ⟨hrel, HB⟩ := hrel
        have gg := blk_in HG.out HB.out
        obtain ⟨g0, g1⟩ := cells2 gg
        have gl := lt_of gg
        clear gg
        rcases hrel with ⟨rfl, HO⟩ | ⟨rfl, HO⟩ | ⟨rfl, HO⟩
        · obtain ⟨sa, sc, rfl⟩ := row_shape HO.out
          go_wp2_with (at_builtin; refine wpList_app_src (ST := 29) (T := 68) (sz := 5) (bytes := 56) (z := .agg #[.int .i64 0, .int .i64 0, .int .i64 0, .int .i64 0, .slice none 0 0]) (i0 := i0) Try.underlying29 hi hz0 hz1 hz2 rfl (by decide) rfl (.tmp 31) (.tmp 32) rfl rfl (lo := w.heap.size) (v := .slice sa 0 sc) (n := 0) (m := n1) (cap := c1) (a := a1) (L := []) (M := cellsL xs1 us1) rfl rfl HO.out HN1.out (HC1.out _ HB.out) HLN1.out H1.out (by unfold maxLen; omega) (by omega) HB.out.size ?_; intro v' W6 hown hgrow hat; have HO6 := Lib.hid hown; have HB6 := Lib.hid (below_grownHi HB.out HB.out.size hgrow (fun q e => (World.ownsRow.lt HO.out q e).1)); clear hown hgrow hat)
          go_roundw
          case rel => exact ⟨.inr (.inl ⟨rfl, by have q := HO6.out; rw [Nat.zero_add, List.nil_append] at q; exact Lib.hid q⟩), HB6⟩
          case measure => simp [intOf]
        · obtain ⟨sa, sc, rfl⟩ := row_shape HO.out
          go_wp2_with (at_builtin; refine wpList_app_src (ST := 29) (T := 68) (sz := 5) (bytes := 56) (z := .agg #[.int .i64 0, .int .i64 0, .int .i64 0, .int .i64 0, .slice none 0 0]) (i0 := i0) Try.underlying29 hi hz0 hz1 hz2 rfl (by decide) rfl (.tmp 31) (.tmp 32) rfl rfl (lo := w.heap.size) (v := .slice sa n1 sc) (n := n1) (m := n2) (cap := c2) (a := a2) (L := (cellsL xs1 us1)) (M := cellsL xs2 us2) rfl rfl HO.out HN2.out (HC2.out _ HB.out) HLN2.out H2.out (by unfold maxLen; omega) (by omega) HB.out.size ?_; intro v' W6 hown hgrow hat; have HO6 := Lib.hid hown; have HB6 := Lib.hid (below_grownHi HB.out HB.out.size hgrow (fun q e => (World.ownsRow.lt HO.out q e).1)); clear hown hgrow hat)
          go_roundw
          case rel => exact ⟨.inr (.inr ⟨rfl, by have q := HO6.out; rw [← HT.out] at q; exact Lib.hid q⟩), HB6⟩
          case measure => simp [intOf]
        · go_wp2_with fail
          go_ret
          obtain ⟨us, f1, f2, f3⟩ := HFIN.out
          have hln := HLT.out
          refine ⟨_, rfl, ⟨us, by rw [hln, HT.out]; exact f1, ?_, f2⟩, HB.out⟩
          rw [hln, ← f3]
          exact HO.out

/-- An end behind which the process k has gone. -/
def behE (k : Nat) (e : End) : End := if (k : Int) < e.1 then (e.1 - 1, e.2) else e
def repE (k : Nat) (f : Int → End) (e : End) : End := if e.1 = (k : Int) then f e.2 else behE k e
def repL (k : Nat) (f g : Int → End) (l : Lnk) : Lnk := ⟨(repE k f l.src).1, (repE k f l.src).2, (repE k g l.tgt).1, (repE k g l.tgt).2, l.tok⟩
def keepB (l : Lnk) : Bool := !(decide (l.src = outE) && decide (l.tgt = outE))
def repLs (k : Nat) (f g : Int → End) (ls : List Lnk) : List Lnk := (ls.map (repL k f g)).filter keepB
def repN (n : Net) (k : Nat) (f g : Int → End) : Net := ⟨n.progs.eraseIdx k, repLs k f g n.links⟩
def dropF : Int → End := fun _ => outE
def dropB (n : Net) (k : Int) : Bool := okN n && decide (0 ≤ k ∧ k < (n.progs.length : Int))
def dropProcessR0 (n : Net) (k : Int) : Net := if dropB n k then repN n k.toNat dropF dropF else ⟨[], []⟩
theorem drop_no {n : Net} {k : Int} (h : dropB n k = false) : dropProcessR0 n k = ⟨[], []⟩ := by unfold dropProcessR0; rw [h]; rfl
theorem drop_yes {n : Net} {k : Int} (h : dropB n k = true) : dropProcessR0 n k = repN n k.toNat dropF dropF := by unfold dropProcessR0; rw [h]; rfl
theorem dropB_no1 {n : Net} {k : Int} (h : okN n = false) : dropB n k = false := by unfold dropB; rw [h]; rfl
theorem dropB_no2 {n : Net} {k : Int} (h : ¬ (0 ≤ k ∧ k < (n.progs.length : Int))) : dropB n k = false := by unfold dropB; rw [decide_eq_false h]; simp
theorem dropB_at {n : Net} {k : Nat} (h : okN n = true) (hk : k < n.progs.length) : dropB n (k : Int) = true := by
  unfold dropB; rw [h, decide_eq_true (by omega)]; rfl
theorem repE_at {k : Nat} {f : Int → End} {e : End} (h : e.1 = (k : Int)) : repE k f e = f e.2 := if_pos h
theorem repE_not {k : Nat} {f : Int → End} {e : End} (h : ¬ e.1 = (k : Int)) : repE k f e = behE k e := if_neg h
theorem behE_gt {k : Nat} {e : End} (h : (k : Int) < e.1) : behE k e = (e.1 - 1, e.2) := if_pos h
theorem behE_le {k : Nat} {e : End} (h : ¬ (k : Int) < e.1) : behE k e = e := if_neg h
theorem behE_out (k : Nat) : behE k outE = outE := behE_le (by unfold outE; simp)
theorem repE_out (k : Nat) (f : Int → End) : repE k f outE = outE := by rw [repE_not (by unfold outE; simp), behE_out]
theorem behE_inj {k : Nat} {a b : End} (ha : ¬ a.1 = (k : Int)) (hb : ¬ b.1 = (k : Int)) (h : behE k a = behE k b) : a = b := by
  obtain ⟨a1, a2⟩ := a
  obtain ⟨b1, b2⟩ := b
  unfold behE at h
  simp only [] at ha hb h
  split at h <;> split at h <;> simp only [Prod.mk.injEq] at h ⊢ <;> omega
theorem repE_iff {k : Nat} {e e0 : End} (he : ¬ e0.1 = (k : Int)) (h0 : behE k e0 ≠ outE) : repE k dropF e = behE k e0 ↔ e = e0 := by
  by_cases h : e.1 = (k : Int)
  · rw [repE_at h]
    exact ⟨fun q => absurd q.symm h0, fun q => absurd (q ▸ h) he⟩
  · rw [repE_not h]
    exact ⟨fun q => behE_inj h he q, fun q => by rw [q]⟩
theorem ports_erase {f : Prg → Int} {ps : List Prg} {k : Nat} {e : End} (he : e ∈ ports f ps) (hk : ¬ e.1 = (k : Int)) : behE k e ∈ ports f (ps.eraseIdx k) := by
  obtain ⟨i, p, hp, h1, h2, h3⟩ := mem_ports.1 he
  rw [mem_ports]
  by_cases hlt : (k : Int) < e.1
  · rw [behE_gt hlt]
    refine ⟨i - 1, p, ?_, by simp only []; omega, h2, h3⟩
    rw [List.getElem?_eraseIdx, if_neg (by omega), show i - 1 + 1 = i by omega]
    exact hp
  · rw [behE_le hlt]
    refine ⟨i, p, ?_, h1, h2, h3⟩
    rw [List.getElem?_eraseIdx, if_pos (by omega)]
    exact hp
theorem ports_back {f : Prg → Int} {ps : List Prg} {k : Nat} {e : End} (he : e ∈ ports f (ps.eraseIdx k)) : ∃ e', e' ∈ ports f ps ∧ ¬ e'.1 = (k : Int) ∧ behE k e' = e := by
  obtain ⟨i, p, hp, h1, h2, h3⟩ := mem_ports.1 he
  rw [List.getElem?_eraseIdx] at hp
  by_cases hlt : i < k
  · rw [if_pos hlt] at hp
    exact ⟨e, mem_ports.2 ⟨i, p, hp, h1, h2, h3⟩, by omega, behE_le (by omega)⟩
  · rw [if_neg hlt] at hp
    refine ⟨(e.1 + 1, e.2), mem_ports.2 ⟨i + 1, p, hp, by simp only []; omega, h2, h3⟩, by simp only []; omega, ?_⟩
    rw [behE_gt (by simp only []; omega)]
    obtain ⟨a, b⟩ := e
    simp only [Prod.mk.injEq, and_true]
    omega
theorem keepB_no {l : Lnk} (h : ¬ keepB l = true) : l.src = outE ∧ l.tgt = outE := by
  unfold keepB at h
  simpa using h
theorem keepB_yes {l : Lnk} (h : keepB l = true) : ¬ (l.src = outE ∧ l.tgt = outE) := by
  unfold keepB at h
  intro q
  rw [decide_eq_true q.1, decide_eq_true q.2] at h
  cases h
theorem count_src {k : Nat} {e0 : End} (he : ¬ e0.1 = (k : Int)) (h0 : behE k e0 ≠ outE) : ∀ ls : List Lnk, ((repLs k dropF dropF ls).map Lnk.src).count (behE k e0) = (ls.map Lnk.src).count e0
  | [] => rfl
  | l :: ls => by
    have ih := count_src he h0 ls
    unfold repLs at ih ⊢
    rw [List.map_cons, List.filter_cons]
    have q := repE_iff (e := l.src) he h0
    have hs : (repL k dropF dropF l).src = repE k dropF l.src := rfl
    by_cases hk : keepB (repL k dropF dropF l) = true
    · rw [if_pos hk, List.map_cons, List.map_cons, List.count_cons, List.count_cons, ih, hs]
      congr 1
      by_cases hl : l.src = e0
      · rw [if_pos (by simpa using q.2 hl), if_pos (by simpa using hl)]
      · rw [if_neg (by simpa using fun z => hl (q.1 z)), if_neg (by simpa using hl)]
    · rw [if_neg hk, List.map_cons, List.count_cons, ih, if_neg]
      · rfl
      · simp only [beq_iff_eq]
        intro hl
        have := (keepB_no hk).1
        rw [hs, q.2 hl] at this
        exact h0 this
theorem count_tgt {k : Nat} {e0 : End} (he : ¬ e0.1 = (k : Int)) (h0 : behE k e0 ≠ outE) : ∀ ls : List Lnk, ((repLs k dropF dropF ls).map Lnk.tgt).count (behE k e0) = (ls.map Lnk.tgt).count e0
  | [] => rfl
  | l :: ls => by
    have ih := count_tgt he h0 ls
    unfold repLs at ih ⊢
    rw [List.map_cons, List.filter_cons]
    have q := repE_iff (e := l.tgt) he h0
    have hs : (repL k dropF dropF l).tgt = repE k dropF l.tgt := rfl
    by_cases hk : keepB (repL k dropF dropF l) = true
    · rw [if_pos hk, List.map_cons, List.map_cons, List.count_cons, List.count_cons, ih, hs]
      congr 1
      by_cases hl : l.tgt = e0
      · rw [if_pos (by simpa using q.2 hl), if_pos (by simpa using hl)]
      · rw [if_neg (by simpa using fun z => hl (q.1 z)), if_neg (by simpa using hl)]
    · rw [if_neg hk, List.map_cons, List.count_cons, ih, if_neg]
      · rfl
      · simp only [beq_iff_eq]
        intro hl
        have := (keepB_no hk).2
        rw [hs, q.2 hl] at this
        exact h0 this
theorem rep_end {f : Prg → Int} {ps : List Prg} {k : Nat} {e : End} (h : e = outE ∨ e ∈ ports f ps) : repE k dropF e = outE ∨ repE k dropF e ∈ ports f (ps.eraseIdx k) := by
  rcases h with rfl | h
  · exact .inl (repE_out k dropF)
  · by_cases hk : e.1 = (k : Int)
    · exact .inl (repE_at hk)
    · rw [repE_not hk]; exact .inr (ports_erase h hk)
theorem len_repLs (k : Nat) (f g : Int → End) (ls : List Lnk) : (repLs k f g ls).length ≤ ls.length := by
  unfold repLs
  have := List.length_filter_le keepB (ls.map (repL k f g))
  rw [List.length_map] at this
  exact this
theorem okN_drop {n : Net} {k : Nat} (h : okN n = true) : okN (repN n k dropF dropF) = true := by
  have h' := (okN_iff n).1 h
  obtain ⟨hh, hl, ho, hi⟩ := h'
  have hp := headL_parts hh
  rw [okN_iff]
  refine ⟨head_yes ⟨Nat.le_trans (List.length_eraseIdx_le _ _) hp.1, Nat.le_trans (len_repLs _ _ _ _) hp.2.1⟩ (List.all_eq_true.2 fun p q => List.all_eq_true.1 hp.2.2 p (List.mem_of_mem_eraseIdx q)), ?_, ?_, ?_⟩
  · intro l hm
    obtain ⟨hm, hkb⟩ := List.mem_filter.1 hm
    obtain ⟨l0, hm0, rfl⟩ := List.mem_map.1 hm
    obtain ⟨a1, a2, a3⟩ := hl l0 hm0
    refine ⟨?_, rep_end a2, rep_end a3⟩
    unfold linkL at a1 ⊢
    rw [Bool.and_eq_true] at a1 ⊢
    exact ⟨a1.1, hkb⟩
  · intro e he
    obtain ⟨e', he', hk', rfl⟩ := ports_back he
    exact (count_src hk' (fun q => out_ports (q ▸ he)) n.links).trans (ho e' he')
  · intro e he
    obtain ⟨e', he', hk', rfl⟩ := ports_back he
    exact (count_tgt hk' (fun q => out_ports (q ▸ he)) n.links).trans (hi e' he')
theorem drop_bd (n : Net) (k : Int) : szN (dropProcessR0 n k) ≤ 50000 := by
  cases h : dropB n k with
  | false => rw [drop_no h]; decide
  | true =>
    rw [drop_yes h]
    refine ok_szN (okN_drop ?_)
    unfold dropB at h
    rw [Bool.and_eq_true] at h
    exact h.1
/-- The links so far: of the first k of them. -/
theorem repLs_step {k j : Nat} {f g : Int → End} {ls : List Lnk} {l : Lnk} (hx : ls[j]? = some l) : repLs k f g (ls.take (j + 1)) = repLs k f g (ls.take j) ++ (if keepB (repL k f g l) then [repL k f g l] else []) := by
  have hj := (List.getElem?_eq_some_iff.1 hx).1
  unfold repLs
  rw [List.take_succ_eq_append_getElem hj, (List.getElem?_eq_some_iff.1 hx).2, List.map_append, List.filter_append]
  congr 1
  rw [List.map_cons, List.map_nil, List.filter_cons]
  rfl
theorem repLs_keep {k j : Nat} {f g : Int → End} {ls : List Lnk} {l : Lnk} (hx : ls[j]? = some l) (h : keepB (repL k f g l) = true) : repLs k f g (ls.take (j + 1)) = repLs k f g (ls.take j) ++ [repL k f g l] := by
  rw [repLs_step hx, if_pos h]
theorem repLs_skip {k j : Nat} {f g : Int → End} {ls : List Lnk} {l : Lnk} (hx : ls[j]? = some l) (h : ¬ keepB (repL k f g l) = true) : repLs k f g (ls.take (j + 1)) = repLs k f g (ls.take j) := by
  rw [repLs_step hx, if_neg h, List.append_nil]

theorem slP_take {w : World} {b off m cap k : Nat} {ps : List Prg} (h : SlP w (.slice (some ⟨b, off, none⟩) m cap) ps) (hk : k ≤ ps.length) : SlP w (.slice (some ⟨b, off, none⟩) k cap) (ps.take k) := by
  obtain ⟨a, c, hv, h1, h2, h3, hr⟩ := h
  simp only [Value.slice.injEq] at hv
  obtain ⟨rfl, rfl, rfl⟩ := hv
  refine ⟨_, _, by rw [List.length_take, Nat.min_eq_left hk], by rw [List.length_take]; omega, h2, h3, ?_⟩
  rcases hr with h0 | ⟨b', off', ha, hb, hc⟩
  · exact .inl (by rw [h0]; simp)
  · refine .inr ⟨b', off', ha, hb, fun i p hp => hc i p ?_⟩
    rw [List.getElem?_take] at hp
    split at hp
    · exact hp
    · cases hp
theorem slP_drop {w : World} {b off m cap k : Nat} {ps : List Prg} (h : SlP w (.slice (some ⟨b, off, none⟩) m cap) ps) (hk : k ≤ ps.length) : SlP w (.slice (some (if cap = k then ⟨b, off, none⟩ else ⟨b, off + k * 3, none⟩)) (m - k) (cap - k)) (ps.drop k) := by
  obtain ⟨a, c, hv, h1, h2, h3, hr⟩ := h
  simp only [Value.slice.injEq] at hv
  obtain ⟨rfl, rfl, rfl⟩ := hv
  refine ⟨_, _, by rw [List.length_drop], by rw [List.length_drop]; omega, by omega, (fun e => by cases e), ?_⟩
  by_cases hc : cap = k
  · exact .inl (List.drop_eq_nil_of_le (by omega))
  · rcases hr with h0 | ⟨b', off', ha, hb, hcc⟩
    · exact .inl (by rw [h0]; simp)
    · simp only [Option.some.injEq, Addr.mk.injEq, and_true] at ha
      obtain ⟨rfl, rfl⟩ := ha
      refine .inr ⟨b, off + k * 3, by rw [if_neg hc], hb, fun i p hp => ?_⟩
      rw [List.getElem?_drop] at hp
      obtain ⟨u, a1, a2, a3, a4⟩ := hcc (k + i) p hp
      rw [show off + (k + i) * 3 = off + k * 3 + i * 3 by omega] at a1 a2 a3
      exact ⟨u, a1, a2, a3, a4⟩
set_option maxHeartbeats 1600000 in
theorem iendb_any (kk : Nat) (a b : Int) (w : World) (ha : -1000000 ≤ a ∧ a ≤ 1000000) :
    Calls Try.prog 129 #[.int .i64 (kk : Int), .agg #[.int .i64 a, .int .i64 b]] w fun e w' => e = .returned (.agg #[.int .i64 (behE kk (a, b)).1, .int .i64 (behE kk (a, b)).2]) ∧ Below w.heap.size w w' := by
  have hb := Lib.hid ((Below.refl w.heap.size w).al (.cells #[.int .i64 a, .int .i64 b] 133))
  by_cases h : (kk : Int) < a
  · rw [behE_gt h]
    have d1 : decide (a > (kk : Int)) = true := decide_eq_true h
    have d2 : decide ((kk : Int) < a) = true := decide_eq_true h
    have hw : wrap64 (a - 1) = a - 1 := IntWalk.wrap64_in _ (by omega)
    go_enter Try.func129, Try.ntmps129
    go_wp2_with fail
    refine bodyPost_ret (v := .agg #[.int .i64 (a - 1), .int .i64 b]) (by simp [results, Try.results129, go_sem]) rfl ⟨rfl, ?_⟩
    first | exact ((Below.refl _ _).al _).al _ | exact (hb.out.al _).al _ | exact ((((hb.out.al _).al _).setCell (by simp) _).setCell (by simp) _)
  · rw [behE_le h]
    have d1 : decide (a > (kk : Int)) = false := decide_eq_false h
    have d2 : decide ((kk : Int) < a) = false := decide_eq_false h
    go_enter Try.func129, Try.ntmps129
    go_wp2_with fail
    refine bodyPost_ret (v := .agg #[.int .i64 a, .int .i64 b]) (by simp [results, Try.results129, go_sem]) rfl ⟨rfl, ?_⟩
    first | exact ((Below.refl _ _).al _).al _ | exact (hb.out.al _).al _ | exact ((((hb.out.al _).al _).setCell (by simp) _).setCell (by simp) _)
set_option maxHeartbeats 1600000 in
theorem iendb_x (kk : Nat) (a b : Int) (w : World) (ha : -1000000 ≤ a ∧ a ≤ 1000000) :
    Calls Try.prog 129 #[.int .i64 (kk : Int), .agg #[.int .i64 a, .int .i64 b]] w fun e w' => e = .returned (.agg #[.int .i64 (behE kk (a, b)).1, .int .i64 (behE kk (a, b)).2]) ∧ ∃ A B, w' = (w.alloc A).alloc B := by
  by_cases h : (kk : Int) < a
  · rw [behE_gt h]
    have d1 : decide (a > (kk : Int)) = true := decide_eq_true h
    have d2 : decide ((kk : Int) < a) = true := decide_eq_true h
    have hw : wrap64 (a - 1) = a - 1 := IntWalk.wrap64_in _ (by omega)
    go_enter Try.func129, Try.ntmps129
    go_wp2_with fail
    exact bodyPost_ret (v := .agg #[.int .i64 (a - 1), .int .i64 b]) (by simp [results, Try.results129, go_sem]) rfl ⟨rfl, _, _, rfl⟩
  · rw [behE_le h]
    have d1 : decide (a > (kk : Int)) = false := decide_eq_false h
    have d2 : decide ((kk : Int) < a) = false := decide_eq_false h
    go_enter Try.func129, Try.ntmps129
    go_wp2_with fail
    exact bodyPost_ret (v := .agg #[.int .i64 a, .int .i64 b]) (by simp [results, Try.results129, go_sem]) rfl ⟨rfl, _, _, rfl⟩
theorem isrc_x (a b c d : Int) (u : Value) (w : World) :
    Calls Try.prog 112 #[.agg #[.int .i64 a, .int .i64 b, .int .i64 c, .int .i64 d, u]] w fun e w' => e = .returned (.agg #[.int .i64 a, .int .i64 b]) ∧ ∃ A B, w' = (w.alloc A).alloc B := by
  go_enter Try.func112, Try.ntmps112
  go_wp2_with fail
  exact bodyPost_ret (v := .agg #[.int .i64 a, .int .i64 b]) (by simp [results, Try.results112, go_sem]) rfl ⟨rfl, _, _, rfl⟩
theorem itgt_x (a b c d : Int) (u : Value) (w : World) :
    Calls Try.prog 113 #[.agg #[.int .i64 a, .int .i64 b, .int .i64 c, .int .i64 d, u]] w fun e w' => e = .returned (.agg #[.int .i64 c, .int .i64 d]) ∧ ∃ A B, w' = (w.alloc A).alloc B := by
  go_enter Try.func113, Try.ntmps113
  go_wp2_with fail
  exact bodyPost_ret (v := .agg #[.int .i64 c, .int .i64 d]) (by simp [results, Try.results113, go_sem]) rfl ⟨rfl, _, _, rfl⟩
theorem al_at {w : World} {o : Obj} {g : Nat} (h : g = w.heap.size) : (w.alloc o).heap[g]? = some o := by subst h; exact hp1 _ _
theorem dr_at {w : World} {o : Obj} {g : Nat} (h : w.heap[g]? = some o) : (World.drew w).heap[g]? = some o := h
set_option maxHeartbeats 1600000 in
theorem inobS_any (p : Int) (w : World) :
    Calls Try.prog 187 #[.agg #[], .int .i64 p] w fun e w' => e = .returned (.agg #[.int .i64 (dropF p).1, .int .i64 (dropF p).2]) ∧ Below w.heap.size w w' := by
  unfold dropF outE
  have hb := Lib.hid (Below.refl w.heap.size w)
  go_enter Try.func187, Try.ntmps187
  go_wp2_with fail
  refine bodyPost_ret (v := .agg #[.int .i64 (-1), .int .i64 0]) (by simp [results, Try.results187, go_sem]) rfl ⟨rfl, ?_⟩
  first | exact ((Below.refl _ _).al _).al _ | exact (hb.out.al _).al _ | exact ((((hb.out.al _).al _).setCell (by simp) _).setCell (by simp) _)
set_option maxHeartbeats 1600000 in
theorem inobT_any (p : Int) (w : World) :
    Calls Try.prog 188 #[.agg #[], .int .i64 p] w fun e w' => e = .returned (.agg #[.int .i64 (dropF p).1, .int .i64 (dropF p).2]) ∧ Below w.heap.size w w' := by
  unfold dropF outE
  have hb := Lib.hid (Below.refl w.heap.size w)
  go_enter Try.func188, Try.ntmps188
  go_wp2_with fail
  refine bodyPost_ret (v := .agg #[.int .i64 (-1), .int .i64 0]) (by simp [results, Try.results188, go_sem]) rfl ⟨rfl, ?_⟩
  first | exact ((Below.refl _ _).al _).al _ | exact (hb.out.al _).al _ | exact ((((hb.out.al _).al _).setCell (by simp) _).setCell (by simp) _)
theorem nob_methS (w : World) : (method (205 + 101) 99 (.agg #[]) "loop.example/g03224/impl.sourceFor").run Try.prog w = .ok (187, .agg #[]) w := by kernel_rfl
theorem nob_methT (w : World) : (method (205 + 101) 99 (.agg #[]) "loop.example/g03224/impl.targetFor").run Try.prog w = .ok (188, .agg #[]) w := by kernel_rfl
end Go.Proofs.Ytkeoefbkeommhaa
