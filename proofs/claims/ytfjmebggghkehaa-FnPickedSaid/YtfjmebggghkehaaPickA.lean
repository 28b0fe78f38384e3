/-
  A run of the sample program 'pick' by the program's RunProcess. No statement of the seat is proved here.
-/
import Derived.Test.YtfjmebggghkehaaPickM
import Derived.Test.YtfjmebggghkehaaRunA
import Derived.Test.YtfjmebggghkehaaSamp
namespace Go.Proofs.Ytfjmebggghkehaa
open Go.RowKit

theorem pick_prog : sampleProgramR0 { data := #[112, 105, 99, 107] } = ⟨3, 1, pickC⟩ := by rfl
theorem own_at {lo n : Nat} {w : World} {v : Value} {xs : List Int} (h : Own lo w v xs) (hn : xs.length = n) {j : Nat} (hj : j < n) : ∃ g cap, v = .slice (some ⟨g, 0, none⟩) n cap ∧ lo ≤ g ∧ g < w.heap.size ∧ w.cell? ⟨g, j, none⟩ = some (.int .i64 (xs.getD j 0)) ∧ w.frozen? ⟨g, j, none⟩ = false := by
  subst hn
  rcases h.2 with ⟨_, hn⟩ | ⟨g, cap, cur, rfl, hlo, hg, _⟩
  · omega
  · have HO : w.ownsRow lo 3 1 (.slice (some ⟨g, 0, none⟩) xs.length cap) xs.length (vals xs) := h
    refine ⟨g, cap, rfl, hlo, lt_of hg, ?_, HO.frozenAt j⟩
    rw [HO.cellAt j (by omega)]
    simp [vals, List.getD, hj]
theorem pick_any (cp iv : Value) (c a b L : List Int) (ia ib : Nat) (W : World) (hp : SlI W cp pickC) (hi : SlR W iv [c, a, b]) (hc : isS c = true) (ha : isS a = true) (hb : isS b = true) (hlen : c.length ≤ 12) (htot : pickL c a b = (L, ia, ib)) :
    Calls Try.prog 17 #[.agg #[.int .i64 3, .int .i64 1, cp], iv, .int .i64 800] W fun e w' => ∃ xv gu ku B, e = .returned (.tuple #[.slice (some ⟨B, 0, none⟩) 1 1, .slice (some ⟨gu, 0, none⟩) 3 ku, .int .i64 2, .bool true]) ∧
      w'.heap[B]? = some (.cells #[xv] 23) ∧ Sl w' xv L ∧ gu < w'.heap.size ∧ w'.cell? ⟨gu, 1, none⟩ = some (.int .i64 ia) ∧ w'.cell? ⟨gu, 2, none⟩ = some (.int .i64 ib) ∧ Below W.heap.size W w' := by
  have hs : areS [c, a, b] ((3 : Nat) : Int) = true := by unfold areS; simp [hc, ha, hb]
  obtain ⟨pc, x, y, z, e⟩ := pick_run c a b c.length 0 0 0 0 0 [] 800 (by omega) (by omega) (by omega) (by simp; omega) (by omega)
  rw [List.drop_zero, List.drop_zero, List.drop_zero, htot] at e
  have q := irun_good (.agg #[.int .i64 3, .int .i64 1, cp]) iv 3 1 pickC [c, a, b] 800 W ⟨cp, rfl, hp⟩ hi (by decide) hs (by omega)
  rw [show startS 3 1 = pst 0 0 0 [] 0 0 0 from rfl, e] at q
  refine q.mono ?_
  rintro e w' ⟨ov, uv, rfl, ⟨us, B, rfl, hB, hh, F⟩, hbw⟩
  have hl := F.len
  match us, hl, hh, F with
  | [], hl, _, _ => simp [pst] at hl
  | [xv], _, hh, F =>
    have o0 := F.own 0 xv _ rfl rfl
    have o1 := F.own 1 uv _ rfl rfl
    obtain ⟨g, cap, rfl, _, hg, _⟩ := own_at o1 (n := 3) rfl (j := 0) (by omega)
    obtain ⟨g1, cap1, hv1, _, _, k1, _⟩ := own_at o1 (n := 3) rfl (j := 1) (by omega)
    obtain ⟨g2, cap2, hv2, _, _, k2, _⟩ := own_at o1 (n := 3) rfl (j := 2) (by omega)
    simp only [Value.slice.injEq, Option.some.injEq, Addr.mk.injEq, and_true, true_and] at hv1 hv2
    obtain ⟨rfl, rfl⟩ := hv1
    obtain ⟨rfl, rfl⟩ := hv2
    refine ⟨xv, g, cap, B, rfl, hh, ?_, hg, ?_, ?_, hbw⟩
    · have := o0.sl
      simpa using this
    · rw [k1]; simp [pst]
    · rw [k2]; simp [pst]
  | _ :: _ :: _, hl, _, _ => simp [pst] at hl
end Go.Proofs.Ytfjmebggghkehaa
