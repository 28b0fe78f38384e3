/-
  The bytes that a law makes of a draw's bytes. No statement of the seat is proved here.
-/
import Derived.Test.YtfjmebggghkehaaBytes
import Derived.Test.YtfjmebggghkehaaOwn
namespace Go.Proofs.Ytfjmebggghkehaa
open Go.RowKit

theorem infoB : (Try.prog.info? 5).map (fun i => (i.zero, i.size, i.bytes)) = some (some (.int .u8 0), 1, 1) := by kernel_rfl
def bvals (xs : List Int) : List Value := xs.map (Value.int .u8)
/-- A slice of bytes of the call's own. -/
def OwnB (lo : Nat) (w : World) (v : Value) (xs : List Int) : Prop := w.ownsRow lo 5 1 v xs.length (bvals xs)
theorem OwnB.sb {lo : Nat} {w : World} {v : Value} {xs : List Int} (h : OwnB lo w v xs) (hb : ∀ n ∈ xs, 0 ≤ n ∧ n ≤ 255) : Sb w v xs := by
  have hl := World.ownsRow.lt h
  have hc := fun g hg => World.ownsRow.cells (g := g) h hg
  rcases h.2 with ⟨rfl, hn⟩ | ⟨g, cap, cur, rfl, hbb, hg, h1, h2, _⟩
  · have hx : xs = [] := List.eq_nil_of_length_eq_zero hn
    subst hx
    exact ⟨none, 0, rfl, Nat.le_refl _, by simp, by simp, .inl rfl⟩
  · refine ⟨_, cap, rfl, h1, h2, hb, .inr ⟨g, 0, rfl, (hl g rfl).2, fun i hi => ?_⟩⟩
    have := hc g rfl i (.int .u8 (xs.getD i 0)) (by simp [bvals, List.getD, hi])
    rwa [Addr.add_lit] at this
theorem one_srcB (w : World) (x : Int) : ∀ j u, [Value.int .u8 x][j]? = some u → (w.alloc (.cells #[.int .u8 x] 5)).cell? ((⟨w.heap.size, 0, none⟩ : Addr).add j) = some u := by
  intro j u hj
  match j, hj with
  | 0, hj => simp at hj; subst hj; simp [Addr.add]
theorem one_oneB (x : Int) : ∀ u ∈ [Value.int .u8 x], u.oneCell' = true := by
  intro u hu; simp at hu; subst hu; rfl
theorem lit1B (w : World) (x : Int) : OwnB w.heap.size (w.alloc (.cells #[.int .u8 x] 5)) (.slice (some ⟨w.heap.size, 0, none⟩) 1 1) [x] :=
  World.ownsRow_lit (base := w.heap.size) (e := 5) (size := 1) w #[.int .u8 x] 1 (Nat.le_refl _) (by unfold maxLen; omega) rfl
theorem app_relB {w wr w1 : World} {v v' : Value} {L : List Int} {x : Int} {o : Obj} (hb : Below w.heap.size w wr) (ho : OwnB w.heap.size wr v L)
    (hown : w1.ownsRow w.heap.size 5 1 v' (L.length + 1) (bvals L ++ [.int .u8 x])) (hg : (wr.alloc o).grownBy w1 v.ownBlock) : OwnB w.heap.size w1 v' (L ++ [x]) ∧ Below w.heap.size w w1 := by
  refine ⟨?_, (hb.alloc hb.size o).grown hg (by have := hb.size; simp; omega) (fun k e => (World.ownsRow.lt ho k e).1)⟩
  unfold OwnB
  simpa [bvals] using hown

set_option maxRecDepth 100000 in
set_option maxHeartbeats 800000 in
theorem fresh_any (v : Value) (bs : List Int) (n : Int) (w : World) (h : Sb w v bs) (hs : bs.length ≤ 1048576) (hn0 : 0 ≤ n) (hn : n ≤ 100) :
    Calls Try.prog 16 #[v, .int .i64 n] w fun e w' => ∃ r ys, e = .returned r ∧ Sb w' r ys ∧ ys.length ≤ 601 ∧ Below w.heap.size w w' := by
  obtain ⟨a, cap, rfl, _, _, hbd, hc⟩ := h
  have HBD := Lib.hid (fun i (hi : i < bs.length) => getD_bd hbd hi)
  have ho0 := lit1B w n
  have hb0 := (Below.refl w.heap.size w).alloc (Nat.le_refl _) (.cells #[.int .u8 n] 5)
  have hwr : IntKind.u8.wrap n = n := by rw [show IntKind.u8.wrap n = n % 256 from by simp [IntKind.wrap, IntKind.bits, IntKind.signed]]; omega
  obtain ⟨i0, hi, hz0, hz1, hz2⟩ := info_parts infoB
  clear hbd
  go_enter Try.func16, Try.ntmps16
  go_wp2_with fail
  go_loopw [5, 6] (fun o i wr => ∃ (ys : List Int) (k : Nat), k ≤ bs.length ∧ i = .int .i64 k ∧ ys.length ≤ k + 1 ∧ ys.length ≤ 601 ∧ Hid (∀ n ∈ ys, 0 ≤ n ∧ n ≤ 255) ∧ OwnB w.heap.size wr o ys ∧ Below w.heap.size w wr) (fun _ i _ => bs.length - (intOf i).toNat)
  case atStart => exact ⟨[n], 0, by omega, rfl, by simp, by simp, by simp [Hid]; omega, ho0, hb0⟩
  case round =>
    clear ho0 hb0
    obtain ⟨ys, k, hk, rfl, hy1, hy2, HY, HO, hb⟩ := hrel
    by_cases hlt : k < bs.length
    · have d1 : decide ((k : Int) < (bs.length : Int)) = true := decide_eq_true (by omega)
      by_cases h6 : k < 600
      · have d2 : decide ((k : Int) < 600) = true := decide_eq_true (by omega)
        rcases hc with rfl | ⟨b, off, rfl, hbl, hcell⟩
        · exact absurd hlt (by simp)
        · have hyb := HBD.out k hlt
          obtain ⟨y, hy⟩ : ∃ y, y = bs.getD k 0 := ⟨_, rfl⟩
          have hck := (hb.cell (p := ⟨b, off + k, none⟩) hbl).trans (hcell k hlt)
          rw [← hy] at hck hyb
          have hmb : 0 ≤ n * ((k : Int) % 7 + 1) ∧ n * ((k : Int) % 7 + 1) ≤ 100 * 7 :=
            ⟨Int.mul_nonneg hn0 (by omega), Int.mul_le_mul hn (by omega) (by omega) (by omega)⟩
          have hsz := hb.size
          have HO' : Hid (OwnB w.heap.size wr _ ys) := HO
          have HB := Lib.hid hb
          clear hy hcell HO hb
          go_wp2_with (at_builtin; refine wpList_append_own_at _ rfl _ _ 22 rfl w.heap.size 5 i0 (.int .u8 0) 1 1 Try.underlying22 hi hz0 hz1 hz2 rfl (by decide) _ _ _ rfl (World.ownsRow.alloc HO'.out _) ⟨wr.heap.size, 0, none⟩ 1 1 [.int .u8 ((y * 3 + n * ((k : Int) % 7 + 1)) % 256)] rfl rfl (one_srcB _ _) (one_oneB _) ?c3 ?c4 ?c5 ?_)
          case c3 => unfold maxLen; omega
          case c4 => omega
          case c5 => first | omega | (simp; omega)
          intro v' w1 hown hgrow _ _
          have R := Lib.hid (app_relB HB.out HO'.out hown hgrow)
          clear hown hgrow HO' HB
          go_wp2_with fail
          go_roundw
          case rel => exact ⟨ys ++ [_], k + 1, by omega, by go_num, by simp; omega, by simp; omega, by intro q hq; rcases List.mem_append.1 hq with h | h; exact HY.out q h; simp at h; omega, R.out.1, R.out.2⟩
          case measure => simp [intOf]; omega
      · have d2 : decide ((k : Int) < 600) = false := decide_eq_false (by omega)
        clear hc
        have HO' : Hid (OwnB w.heap.size wr _ ys) := HO
        have HB := Lib.hid hb
        clear HO hb
        go_wp2_with fail
        go_ret
        exact ⟨_, ys, rfl, HO'.out.sb HY.out, by omega, HB.out⟩
    · have d1 : decide ((k : Int) < (bs.length : Int)) = false := decide_eq_false (by omega)
      clear hc
      have HO' : Hid (OwnB w.heap.size wr _ ys) := HO
      have HB := Lib.hid hb
      clear HO hb
      go_wp2_with fail
      go_ret
      exact ⟨_, ys, rfl, HO'.out.sb HY.out, by omega, HB.out⟩

end Go.Proofs.Ytfjmebggghkehaa
