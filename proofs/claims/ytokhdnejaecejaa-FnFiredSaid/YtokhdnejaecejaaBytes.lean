/-
  Words for a slice of bytes that came in, and what the law's own function 'at' answers. No statement of the seat is proved here.
-/
import Derived.Test.YtokhdnejaecejaaBase
import Derived.OpenShut
namespace Go.Proofs.Ytokhdnejaecejaa
open Go.RowKit

/-- 'v' is a slice of bytes that reads as 'bs' in 'w'. -/
def Sb (w : World) (v : Value) (bs : List Int) : Prop :=
  ∃ (a : Option Addr) (cap : Nat), v = .slice a bs.length cap ∧ bs.length ≤ cap ∧ cap ≤ maxLen ∧ (∀ n ∈ bs, 0 ≤ n ∧ n ≤ 255) ∧
    (bs = [] ∨ ∃ b off, a = some ⟨b, off, none⟩ ∧ b < w.heap.size ∧ ∀ i, i < bs.length → w.cell? ⟨b, off + i, none⟩ = some (.int .u8 (bs.getD i 0)))

theorem Sb.below {w w' : World} {v : Value} {xs : List Int} (h : Sb w v xs) (hb : Below w.heap.size w w') : Sb w' v xs := by
  obtain ⟨a, cap, hv, h1, h2, h3, h4⟩ := h
  refine ⟨a, cap, hv, h1, h2, h3, ?_⟩
  rcases h4 with h4 | ⟨b, off, ha, hlt, hc⟩
  · exact .inl h4
  · exact .inr ⟨b, off, ha, Nat.lt_of_lt_of_le hlt hb.size, fun i hi => (hb.cell (p := ⟨b, off + i, none⟩) hlt).trans (hc i hi)⟩

theorem u8_bd {n : Int} (h : (Lit.int .u8 n).wf = true) : 0 ≤ n ∧ n ≤ 255 := by
  have := bounds_u8 h
  omega

theorem sb_of {w : World} {a : Option Addr} {len cap : Nat} {zs : List Int}
    (h : (a = none ∧ len = 0 ∧ cap = 0 ∧ zs = []) ∨ ∃ x, a = some x ∧ len ≤ cap ∧ cap ≤ maxLen ∧ zs.length = cap ∧ (∀ i, i < zs.length → w.cell? (x.add i) = some (.int .u8 (zs.getD i 0))) ∧ ∀ n ∈ zs, (Lit.int .u8 n).wf = true) :
    Sb w (.slice a len cap) (zs.take len) := by
  rcases h with ⟨rfl, rfl, rfl, rfl⟩ | ⟨x, rfl, hl, hm, hz, hc, hw⟩
  · exact ⟨none, 0, rfl, Nat.le_refl _, by simp, by simp, .inl rfl⟩
  · have hlen : (zs.take len).length = len := by simp; omega
    refine ⟨some x, cap, by rw [hlen], by omega, hm, fun n hn => u8_bd (hw n (List.mem_of_mem_take hn)), ?_⟩
    by_cases h0 : len = 0
    · left; subst h0; simp
    · right
      obtain ⟨b, off, spot⟩ := x
      have h1 := hc 0 (by omega)
      have hadd : ∀ i, (⟨b, off, none⟩ : Addr).add i = ⟨b, off + i, none⟩ := fun i => Addr.add_lit _ _ _
      have hspot : spot = none := by simpa [Addr.add] using World.cell?_spot h1
      subst hspot
      refine ⟨b, off, rfl, ?_, fun i hi => ?_⟩
      · have := World.block_lt_of_cell? w _ h1
        rw [hadd] at this
        exact this
      · have h2 := hc i (by omega)
        rw [hadd] at h2
        rw [h2]
        simp only [List.getD_eq_getElem?_getD, List.getElem?_take]
        rw [if_pos (by omega)]

theorem getD_bd {bs : List Int} {i : Nat} (h : ∀ n ∈ bs, 0 ≤ n ∧ n ≤ 255) (hi : i < bs.length) : 0 ≤ bs.getD i 0 ∧ bs.getD i 0 ≤ 255 :=
  h _ (by simp [List.getD, hi])

set_option maxHeartbeats 400000 in
theorem at_any (v : Value) (bs : List Int) (i : Int) (w : World) (h : Sb w v bs) (hs : bs.length ≤ 1048576) (hi : 0 ≤ i) (hi2 : i ≤ 1000) :
    Calls Try.prog 38 #[v, .int .i64 i] w fun e w' => ∃ r : Int, e = .returned (.int .i64 r) ∧ 0 ≤ r ∧ r ≤ 255 ∧ w = w' := by
  obtain ⟨a, cap, rfl, _, _, hbd, hc⟩ := h
  by_cases hlt : i < bs.length
  · rcases hc with rfl | ⟨b, off, rfl, _, hcell⟩
    · exact absurd hlt (by simp; omega)
    · obtain ⟨x, hx⟩ : ∃ x, x = bs.getD i.toNat 0 := ⟨_, rfl⟩
      have hx2 := getD_bd hbd (show i.toNat < bs.length by omega)
      have hck := hcell i.toNat (by omega)
      rw [← hx] at hck hx2
      obtain ⟨l, hl⟩ : ∃ l, l = bs.length := ⟨_, rfl⟩
      rw [← hl] at hlt hs ⊢
      clear hx hcell hbd hl
      go_enter Try.func38, Try.ntmps38
      go_wp2_with fail
      go_ret
      exact ⟨x, rfl, hx2.1, hx2.2, rfl⟩
  · obtain ⟨l, hl⟩ : ∃ l, l = bs.length := ⟨_, rfl⟩
    rw [← hl] at hlt hs ⊢
    clear hc hbd hl
    go_enter Try.func38, Try.ntmps38
    go_wp2_with fail
    go_ret
    exact ⟨_, rfl, by omega, by omega, rfl⟩

end Go.Proofs.Ytokhdnejaecejaa
