/-
  More words for slices of ints of the call's own: their blocks, sources of a copy, an append of one token. No statement of the seat is proved here.
-/
import Derived.Test.YtkeoefbkeommhaaBase
import Derived.Laws.CopyOwn
import Derived.Laws.AppendOwnNone
import Derived.Maps.AppendAt
namespace Go.Proofs.Ytkeoefbkeommhaa
open Go.RowKit

theorem size1 : (Try.prog.info? 3).map (·.size) = some 1 := by kernel_rfl

theorem own_heap {w : World} {lo g n : Nat} {L : List Value} (h : w.ownsRow lo 3 1 (.slice (some ⟨g, 0, none⟩) n n) n L) : w.heap[g]? = some (.cells L.toArray 3 (0, 0)) := by
  rcases h.2 with ⟨h', _⟩ | ⟨g', cap', cur, h', hb, hg, hnc, hcm, hcs, htake⟩
  · simp at h'
  · simp only [Value.slice.injEq, Option.some.injEq, Addr.mk.injEq, and_true, true_and] at h'
    obtain ⟨rfl, rfl⟩ := h'
    rw [hg, ← htake, List.take_of_length_le (by simp [hcs])]

theorem heap_own {w : World} {lo g n : Nat} {L : List Value} (h : w.heap[g]? = some (.cells L.toArray 3 (0, 0))) (hn : L.length = n) (hlo : lo ≤ g) (hm : n ≤ maxLen) : w.ownsRow lo 3 1 (.slice (some ⟨g, 0, none⟩) n n) n L :=
  ⟨by omega, .inr ⟨g, n, _, rfl, hlo, h, Nat.le_refl _, hm, by simp [hn], by simp [← hn]⟩⟩

theorem splice_all {α : Type} {Z cs : List α} (h : Z.length = cs.length) : splice Z 0 cs = cs := by
  simp [splice, h]

/-- The cells of a source, where there is one. -/
theorem src_at {w : World} {b off : Nat} {xs : List Int} (hc : ∀ i, i < xs.length → w.cell? ⟨b, off + i, none⟩ = some (.int .i64 (xs.getD i 0))) :
    ∀ j u, (vals xs)[j]? = some u → w.cell? ((⟨b, off, none⟩ : Addr).add j) = some u := by
  intro j u hu
  have hj : j < xs.length := by
    have := (List.getElem?_eq_some_iff.1 hu).1
    simpa [vals] using this
  rw [Addr.add_lit, hc j hj]
  simpa [vals, List.getD, hj] using hu

theorem vals_one (xs : List Int) : ∀ u ∈ vals xs, u.oneCell' = true := ints_oneCell .i64 xs
theorem vals_len (xs : List Int) : (vals xs).length = xs.length := by simp [vals]

theorem Sl.src {w : World} {ad : Addr} {n cap : Nat} {xs : List Int} (h : Sl w (.slice (some ad) n cap) xs) : n = xs.length ∧ ∀ j u, (vals xs)[j]? = some u → w.cell? (ad.add j) = some u := by
  obtain ⟨a, c, hv, _, _, _, hc⟩ := h
  simp only [Value.slice.injEq] at hv
  obtain ⟨rfl, rfl, rfl⟩ := hv
  refine ⟨rfl, ?_⟩
  rcases hc with rfl | ⟨b, off, he, _, hc⟩
  · intro j u hu; simp [vals] at hu
  · obtain rfl := Option.some.inj he
    exact src_at hc

theorem Sl.take {w : World} {a : Option Addr} {cap n : Nat} {xs : List Int} (h : Sl w (.slice a xs.length cap) xs) (hn : n ≤ xs.length) : Sl w (.slice a n cap) (xs.take n) := by
  obtain ⟨a', c, hv, h1, h2, h3, hc⟩ := h
  simp only [Value.slice.injEq, true_and] at hv
  obtain ⟨rfl, rfl⟩ := hv
  have hl : (xs.take n).length = n := by simp; omega
  refine ⟨a, cap, by rw [hl], by omega, h2, h3, ?_⟩
  rcases hc with rfl | ⟨b, off, he, hb, hc⟩
  · left; simp
  · right
    refine ⟨b, off, he, hb, fun i hi => ?_⟩
    rw [hc i (by omega)]
    simp only [List.getD_eq_getElem?_getD, List.getElem?_take]
    rw [if_pos (by omega)]

theorem Sl.drop {w : World} {a : Option Addr} {cap n : Nat} {xs : List Int} (h : Sl w (.slice a xs.length cap) xs) (hn : n < cap) (hx : n ≤ xs.length) :
    ∃ ad : Addr, a = some ad ∧ Sl w (.slice (some (ad.add n)) (xs.length - n) (cap - n)) (xs.drop n) := by
  obtain ⟨a', c, hv, h1, h2, h3, hc⟩ := h
  simp only [Value.slice.injEq, true_and] at hv
  obtain ⟨rfl, rfl⟩ := hv
  cases a with
  | none => exact absurd (h3 rfl) (by omega)
  | some ad =>
    refine ⟨ad, rfl, some (ad.add n), cap - n, by simp, by simp; omega, by omega, (fun h => by cases h), ?_⟩
    rcases hc with rfl | ⟨b, off, he, hb, hc⟩
    · left; simp
    · obtain rfl := Option.some.inj he
      right
      refine ⟨b, off + n, by rw [Addr.add_lit], hb, fun i hi => ?_⟩
      have hi' : i < xs.length - n := by simpa using hi
      rw [Nat.add_assoc, hc (n + i) (by omega)]
      simp [List.getD]

theorem lit0 (w : World) : (w.alloc (.cells #[] 3)).ownsRow w.heap.size 3 1 (.slice (some ⟨w.heap.size, 0, none⟩) 0 0) 0 [] :=
  World.ownsRow_made w #[] 0 (Nat.le_refl _) (by unfold maxLen; omega) rfl

theorem one_src (w : World) (x : Int) : ∀ j u, [Value.int .i64 x][j]? = some u → (w.alloc (.cells #[.int .i64 x] 3)).cell? ((⟨w.heap.size, 0, none⟩ : Addr).add j) = some u := by
  intro j u hj
  match j, hj with
  | 0, hj => simp at hj; subst hj; simp [Addr.add]
theorem one_one (x : Int) : ∀ u ∈ [Value.int .i64 x], u.oneCell' = true := by
  intro u hu; simp at hu; subst hu; rfl

theorem app_rel {w wr w1 : World} {B lo : Nat} {v v' : Value} {L : List Int} {x : Int} {o : Obj} (hb : Below B w wr) (hB : B ≤ wr.heap.size) (hlo : B ≤ lo) (ho : Own lo wr v L)
    (hown : w1.ownsRow lo 3 1 v' (L.length + 1) (vals L ++ [.int .i64 x])) (hg : (wr.alloc o).grownBy w1 v.ownBlock) : Own lo w1 v' (L ++ [x]) ∧ Below B w w1 := by
  refine ⟨?_, (hb.alloc hB o).grown hg (by simp; omega) (fun k e => Nat.le_trans hlo (ho.lt k e).1)⟩
  unfold Own
  simpa [vals] using hown

theorem app_other {wr w1 : World} {lo : Nat} {v v' u : Value} {M : List Int} {o : Obj} (hu : Own lo wr u M) (hap : Apart u v)
    (hg : (wr.alloc o).grownBy w1 v.ownBlock) (hat : v'.ownBlock = v.ownBlock ∨ v'.ownBlock = some (wr.heap.size + 1)) : Own lo w1 u M ∧ Apart u v' := by
  refine ⟨World.ownsRow.kept (World.ownsRow.alloc hu o) hg hap, ?_⟩
  rcases hat with hat | hat
  · unfold Apart; rw [hat]; exact hap
  · cases h : u.ownBlock with
    | none => exact .inl h
    | some k =>
      have := (hu.lt k h).2
      right; rw [hat, h]; intro e; simp at e; omega

theorem own_nil (lo : Nat) (w : World) : Own lo w (.slice none 0 0) [] := World.ownsRow_nil _ _ _ _
theorem lit1 (w : World) : Own w.heap.size ((w.alloc (.cells #[] 3)).alloc (.cells #[] 3)) (.slice (some ⟨w.heap.size + 1, 0, none⟩) 0 0) [] := by
  have h := World.ownsRow_made (base := w.heap.size) (e := 3) (size := 1) (w.alloc (.cells #[] 3)) #[] 0 (by simp) (by unfold maxLen; omega) rfl
  rw [show (w.alloc (.cells #[] 3)).heap.size = w.heap.size + 1 by simp] at h
  exact h
theorem apart_nil (u : Value) : Apart (.slice none 0 0) u := .inl rfl

def lenOf : Value → Nat | .slice _ n _ => n | _ => 0
theorem Own.shape {lo : Nat} {w : World} {v : Value} {xs : List Int} (h : Own lo w v xs) : ∃ a c, v = .slice a xs.length c := by
  rcases h.2 with ⟨rfl, hn⟩ | ⟨g, cap, cur, rfl, _⟩
  · exact ⟨none, 0, by rw [hn]⟩
  · exact ⟨_, _, rfl⟩

theorem lenOf_own {lo : Nat} {w : World} {v : Value} {xs : List Int} (h : Own lo w v xs) : lenOf v = xs.length := by
  obtain ⟨a, c, rfl⟩ := h.shape; rfl


/-- append(v, u...), v a slice of ints of the call's own, u any slice of ints, nil too: a law for the walk. -/
theorem wpList_append_sl {w : World} {ops : Array Oper} {rest : List Oper} {o : Oper} {a : Act} {Q : Exit → Act → World → Prop} (hgd : o.guard = none) (s x : Operand)
    (ho : o.op = .call { callee := .builtin .append, args := #[s, x], argTypes := #[26, 26] }) (base : Nat) (v : Value) (L : List Int) (hs : a.eval s = v) (hown : Own base w v L)
    (ao : Option Addr) (m c : Nat) (ys : List Int) (hx : a.eval x = .slice ao m c) (hsl : Sl w (.slice ao m c) ys) (hlen : L.length + ys.length ≤ 4000000) (hbase : base ≤ w.heap.size)
    (h : ∀ v' w', Own base w' v' (L ++ ys) → w.grownBy w' v.ownBlock → wpList Try.prog ops Q rest (a.put o.dst v') w') : wpList Try.prog ops Q (o :: rest) a w := by
  obtain ⟨i0, hi, hz0, hz1, hz2⟩ := info_parts info
  cases ao with
  | none =>
    obtain ⟨a', c', hv, h1, _, h3, _⟩ := hsl
    simp only [Value.slice.injEq] at hv
    obtain ⟨rfl, rfl, rfl⟩ := hv
    obtain rfl : c = 0 := h3 rfl
    obtain rfl : ys = [] := List.eq_nil_of_length_eq_zero (by omega)
    refine wpList_append_own_none hgd s x 26 ho base 3 i0 1 Try.underlying26 hi v L.length (vals L) hs hown hx ?_
    exact h v w (by rw [List.append_nil]; exact hown) (World.grownBy.refl _ _)
  | some ad =>
    obtain ⟨rfl, hsrc⟩ := hsl.src
    refine wpList_append_own w hgd s x 26 ho base 3 i0 (.int .i64 0) 1 8 Try.underlying26 hi hz0 hz1 hz2 rfl (by decide) v L.length (vals L) hs hown ad ys.length c (vals ys) hx (by rw [vals_len, Nat.mul_one]) hsrc (vals_one ys) (by unfold maxLen; omega) (by omega) hbase ?_
    intro v' w' hown' hg _
    refine h v' w' ?_ hg
    unfold Own
    rw [List.length_append, show vals (L ++ ys) = vals L ++ vals ys by simp [vals]]
    exact hown'

end Go.Proofs.Ytkeoefbkeommhaa
