/-
  The model's cursor over the bytes of a draw: what its functions answer and leave. No statement of the seat is proved here.
-/
import Derived.Test.YtokhdnejaecejaaBytes
import Derived.Test.YtokhdnejaecejaaOwn
import Derived.Deep.QuietTactic
import Derived.BigQuiet
namespace Go.Proofs.Ytokhdnejaecejaa
open Go.RowKit

theorem and_bd (m : Nat) (hm : m ≤ 1073741823) (X : Int) : 0 ≤ bits .and .i64 X (m : Int) ∧ bits .and .i64 X (m : Int) ≤ (m : Int) := by
  have h : (BitVec.ofInt 64 X &&& BitVec.ofInt 64 (m : Int)).toNat ≤ m := by
    rw [BitVec.toNat_and]
    refine Nat.le_trans Nat.and_le_right ?_
    rw [show BitVec.ofInt 64 (m : Int) = BitVec.ofNat 64 m from by simp, BitVec.toNat_ofNat]
    exact Nat.mod_le _ _
  have key : bits .and .i64 X (m : Int) = IntKind.i64.wrap (((BitVec.ofInt 64 X &&& BitVec.ofInt 64 (m : Int)).toNat : Nat) : Int) := rfl
  rw [key]
  generalize (BitVec.ofInt 64 X &&& BitVec.ofInt 64 (m : Int)).toNat = q at h ⊢
  rw [IntKind.wrap_i64]
  omega
theorem and255 (X : Int) : 0 ≤ bits .and .i64 X 255 ∧ bits .and .i64 X 255 ≤ 255 := and_bd 255 (by omega) X

/-- A cursor over the bytes 'bs' lies whole in block 'b', behind the block of the bytes. -/
def Cur (w : World) (b : Nat) (bs : List Int) : Prop :=
  ∃ (a : Option Addr) (cap : Nat) (i h : Int), w.heap[b]? = some (.cells #[.slice a bs.length cap, .int .i64 i, .int .i64 h] 138 (0, 0)) ∧
    0 ≤ i ∧ i ≤ bs.length ∧ bs.length ≤ 1048576 ∧ (∀ n ∈ bs, 0 ≤ n ∧ n ≤ 255) ∧
    (bs = [] ∨ ∃ c off, a = some ⟨c, off, none⟩ ∧ c < b ∧ ∀ j, j < bs.length → w.cell? ⟨c, off + j, none⟩ = some (.int .u8 (bs.getD j 0)))

theorem Cur.lt {w : World} {b : Nat} {bs : List Int} (h : Cur w b bs) : b < w.heap.size := by
  obtain ⟨a, cap, i, h, hh, _⟩ := h
  exact (Array.getElem?_eq_some_iff.1 hh).1

/-- The cursor stays a cursor where its block and all below it are as they were. -/
theorem Cur.below {w w' : World} {b : Nat} {bs : List Int} (h : Cur w b bs) (hb : Below (b + 1) w w') : Cur w' b bs := by
  obtain ⟨a, cap, i, h, hh, h1, h2, h3, h4, h5⟩ := h
  refine ⟨a, cap, i, h, by rw [hb.block b (by omega)]; exact hh, h1, h2, h3, h4, ?_⟩
  rcases h5 with h5 | ⟨c, off, ha, hc, hcell⟩
  · exact .inl h5
  · exact .inr ⟨c, off, ha, hc, fun j hj => (hb.cell (p := ⟨c, off + j, none⟩) (by simp; omega)).trans (hcell j hj)⟩

theorem grown_setCell (w : World) (a : Addr) (u : Value) : w.grownBy (w.setCell a u) (some a.block) :=
  ⟨rfl, rfl, rfl, by simp [World.setCell], fun k _ hk => Below.heap_setCell w a u k (fun e => hk (by rw [e]))⟩
theorem grown_drewN {a w : World} {r : Option Nat} (h : a.grownBy w r) (n : Nat) : a.grownBy (w.drewN n) r := ⟨h.os, h.tape, h.output, h.size, h.block⟩
theorem below_grownb {w w' : World} {b : Nat} (h : w.grownBy w' (some b)) (hb : b ≤ w.heap.size) : Below b w w' :=
  (Below.refl b w).grown h hb (fun k e => by simp at e; omega)
theorem Cur.alloc {w : World} {b : Nat} {bs : List Int} (h : Cur w b bs) (o : Obj) : Cur (w.alloc o) b bs :=
  h.below ((Below.refl _ _).alloc (by have := h.lt; omega) o)

theorem cur_last {w : World} {b : Nat} {bs : List Int} {a : Option Addr} {cap : Nat} {i h V : Int} (hh : w.heap[b]? = some (.cells #[.slice a bs.length cap, .int .i64 i, .int .i64 h] 138 (0, 0)))
    (h1 : 0 ≤ i) (h2 : i ≤ bs.length) (h3 : bs.length ≤ 1048576) (h4 : ∀ n ∈ bs, 0 ≤ n ∧ n ≤ 255)
    (h5 : bs = [] ∨ ∃ c off, a = some ⟨c, off, none⟩ ∧ c < b ∧ ∀ j, j < bs.length → w.cell? ⟨c, off + j, none⟩ = some (.int .u8 (bs.getD j 0))) :
    Cur (w.setCell ⟨b, 2, none⟩ (.int .i64 V)) b bs := by
  have A1 := heap_setCell_same w b 2 _ _ (.int .i64 V) hh
  have HB := Below.setCell (Below.refl b w) (p := ⟨b, 2, none⟩) (Nat.le_refl _) (.int .i64 V)
  refine ⟨a, cap, i, V, A1, h1, h2, h3, h4, ?_⟩
  rcases h5 with h5 | ⟨c, off, ha, hc, hcell⟩
  · exact .inl h5
  · exact .inr ⟨c, off, ha, hc, fun j hj => (HB.cell (p := ⟨c, off + j, none⟩) hc).trans (hcell j hj)⟩

theorem cur_next {w : World} {b : Nat} {bs : List Int} {cap c off k : Nat} {h V : Int} (hh : w.heap[b]? = some (.cells #[.slice (some ⟨c, off, none⟩) bs.length cap, .int .i64 (k : Int), .int .i64 h] 138 (0, 0)))
    (h1 : (0 : Int) ≤ (k : Int) + 1) (h2 : (k : Int) + 1 ≤ bs.length) (h3 : bs.length ≤ 1048576) (h4 : ∀ n ∈ bs, 0 ≤ n ∧ n ≤ 255)
    (hc : c < b) (hcell : ∀ j, j < bs.length → w.cell? ⟨c, off + j, none⟩ = some (.int .u8 (bs.getD j 0))) :
    Cur ((w.setCell ⟨b, 2, none⟩ (.int .i64 V)).setCell ⟨b, 1, none⟩ (.int .i64 ((k : Int) + 1))) b bs := by
  have A1 := heap_setCell_same w b 2 _ _ (.int .i64 V) hh
  have A2 := heap_setCell_same _ b 1 _ _ (.int .i64 ((k : Int) + 1)) A1
  have HB := Below.setCell (Below.setCell (Below.refl b w) (p := ⟨b, 2, none⟩) (Nat.le_refl _) (.int .i64 V)) (p := ⟨b, 1, none⟩) (Nat.le_refl _) (.int .i64 ((k : Int) + 1))
  exact ⟨_, cap, _, V, A2, h1, h2, h3, h4, .inr ⟨c, off, rfl, hc, fun j hj => (HB.cell (p := ⟨c, off + j, none⟩) hc).trans (hcell j hj)⟩⟩

set_option maxRecDepth 100000 in
set_option maxHeartbeats 800000 in
theorem byte_any (b : Nat) (bs : List Int) (w : World) (h : Cur w b bs) :
    Calls Try.prog 151 #[.pointer (some ⟨b, 0, none⟩)] w fun e w' => ∃ r : Int, e = .returned (.int .i64 r) ∧ 0 ≤ r ∧ r ≤ 255 ∧ Cur w' b bs ∧ w.grownBy w' (some b) := by
  obtain ⟨a, cap, i, h, hh, h1, h2, h3, h4, h5⟩ := h
  have c0 : w.cell? ⟨b, 0, none⟩ = some (.slice a bs.length cap) := by rw [cell_of_row w b 0 _ _ _ hh]; rfl
  have c1 : w.cell? ⟨b, 1, none⟩ = some (.int .i64 i) := by rw [cell_of_row w b 1 _ _ _ hh]; rfl
  have c2 : w.cell? ⟨b, 2, none⟩ = some (.int .i64 h) := by rw [cell_of_row w b 2 _ _ _ hh]; rfl
  have f1 : w.frozen? ⟨b, 1, none⟩ = false := frozen_of_row w b 1 _ _ hh
  have f2 : w.frozen? ⟨b, 2, none⟩ = false := frozen_of_row w b 2 _ _ hh
  by_cases hlt : i < bs.length
  · rcases h5 with rfl | ⟨c, off, rfl, hc, hcell⟩
    · exact absurd hlt (by simp; omega)
    · obtain ⟨k, rfl⟩ : ∃ k : Nat, i = (k : Int) := ⟨i.toNat, by omega⟩
      have hkl : k < bs.length := by omega
      have hck := hcell k hkl
      have hne : ¬ c = b := by omega
      have HC := Lib.hid hcell
      have HH := Lib.hid hh
      have H4 := Lib.hid h4
      clear hcell hh h4
      go_enter Try.func151, Try.ntmps151
      go_wp2_with fail
      go_quiet (fail)
      go_wp2_with fail
      go_quiet (fail)
      go_wp2_with fail
      go_quiet (fail)
      go_wp2_with fail
      go_ret
      refine ⟨_, rfl, (and255 _).1, (and255 _).2, ?_, ?_⟩
      · exact cur_next HH.out (by omega) (by omega) h3 H4.out hc HC.out
      · exact (grown_drewN (grown_setCell w ⟨b, 2, none⟩ _) _).trans (grown_setCell _ ⟨b, 1, none⟩ _)
  · have HH := Lib.hid hh
    have H4 := Lib.hid h4
    have H5 := Lib.hid h5
    clear hh h4 h5
    go_enter Try.func151, Try.ntmps151
    go_wp2_with fail
    go_quiet (fail)
    go_wp2_with fail
    go_quiet (fail)
    go_wp2_with fail
    go_ret
    refine ⟨_, rfl, (and255 _).1, (and255 _).2, ?_, ?_⟩
    · exact cur_last HH.out h1 h2 h3 H4.out H5.out
    · exact grown_drewN (grown_drewN (grown_setCell w ⟨b, 2, none⟩ _) _) _

set_option maxHeartbeats 400000 in
theorem lbelow_any (b : Nat) (bs : List Int) (n : Int) (w : World) (h : Cur w b bs) (hn : 1 ≤ n) (hn2 : n ≤ 256) :
    Calls Try.prog 108 #[.pointer (some ⟨b, 0, none⟩), .int .i64 n] w fun e w' => ∃ r : Int, e = .returned (.int .i64 r) ∧ 0 ≤ r ∧ r < n ∧ Cur w' b bs ∧ w.grownBy w' (some b) := by
  go_enter Try.func108, Try.ntmps108
  go_wp2_with fail
  refine (byte_any b bs _ h).mono ?_
  rintro e w1 ⟨r, rfl, h0, h1, hc, hg⟩
  have m0 := Int.emod_nonneg r (show n ≠ 0 by omega)
  have m1 := Int.emod_lt_of_pos r (show 0 < n by omega)
  go_wp2_with fail
  go_ret
  exact ⟨_, rfl, m0, m1, hc, hg⟩

set_option maxHeartbeats 400000 in
theorem once_any (b : Nat) (bs : List Int) (n : Int) (w : World) (h : Cur w b bs) (hn : 1 ≤ n) (hn2 : n ≤ 256) :
    Calls Try.prog 110 #[.pointer (some ⟨b, 0, none⟩), .int .i64 n] w fun e w' => ∃ r : Bool, e = .returned (.bool r) ∧ Cur w' b bs ∧ w.grownBy w' (some b) := by
  go_enter Try.func110, Try.ntmps110
  go_wp2_with fail
  refine (lbelow_any b bs n _ h hn hn2).mono ?_
  rintro e w1 ⟨r, rfl, h0, h1, hc, hg⟩
  go_wp2_with fail
  go_ret
  exact ⟨_, rfl, hc, hg⟩

theorem Sl.grown {w w' : World} {v : Value} {xs : List Int} {b c off n cap : Nat} (h : Sl w v xs) (hv : v = .slice (some ⟨c, off, none⟩) n cap) (hne : c ≠ b) (hg : w.grownBy w' (some b)) : Sl w' v xs := by
  obtain ⟨a, cap, hv', h1, h2, h3, h4⟩ := h
  refine ⟨a, cap, hv', h1, h2, h3, ?_⟩
  rcases h4 with h4 | ⟨b', off, ha, hlt, hc⟩
  · exact .inl h4
  · have : b' = c := by rw [hv', ha] at hv; simp at hv; exact hv.1.1
    exact .inr ⟨b', off, ha, Nat.lt_of_lt_of_le hlt hg.size, fun i hi => hg.cell (hc i hi) (by simp; omega)⟩

end Go.Proofs.Ytokhdnejaecejaa
