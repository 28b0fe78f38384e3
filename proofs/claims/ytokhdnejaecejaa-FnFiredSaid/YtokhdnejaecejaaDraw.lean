/-
  The model's drawn streams: MakeStream over bytes that came in or that the call made. No statement of the seat is proved here.
-/
import Derived.Test.YtokhdnejaecejaaTokens
namespace Go.Proofs.Ytokhdnejaecejaa
open Go.RowKit

theorem new_cur {w : World} {a : Option Addr} {cap : Nat} {bs : List Int} {h : Int} (hs : bs.length ≤ 1048576) (hbd : ∀ n ∈ bs, 0 ≤ n ∧ n ≤ 255)
    (hc : bs = [] ∨ ∃ b off, a = some ⟨b, off, none⟩ ∧ b < w.heap.size ∧ ∀ i, i < bs.length → w.cell? ⟨b, off + i, none⟩ = some (.int .u8 (bs.getD i 0))) :
    Cur (w.alloc (.cells #[.slice a bs.length cap, .int .i64 0, .int .i64 h] 138)) w.heap.size bs := by
  have hb := (Below.refl w.heap.size w).alloc (Nat.le_refl _) (.cells #[.slice a bs.length cap, .int .i64 0, .int .i64 h] 138)
  refine ⟨a, cap, 0, h, heap_alloc_new w _, by omega, by omega, hs, hbd, ?_⟩
  rcases hc with hc | ⟨b, off, ha, hlt, hcell⟩
  · exact .inl hc
  · exact .inr ⟨b, off, ha, hlt, fun j hj => (hb.cell (p := ⟨b, off + j, none⟩) hlt).trans (hcell j hj)⟩

set_option maxRecDepth 100000 in
set_option maxHeartbeats 800000 in
theorem new_any (v : Value) (bs : List Int) (w : World) (h : Sb w v bs) (hs : bs.length ≤ 1048576) :
    Calls Try.prog 70 #[v] w fun e w' => e = .returned (.pointer (some ⟨w.heap.size, 0, none⟩)) ∧ Cur w' w.heap.size bs ∧ Below w.heap.size w w' := by
  obtain ⟨a, cap, rfl, _, _, hbd, hc⟩ := h
  have HC := Lib.hid (fun (x : Int) => new_cur (cap := cap) (h := x) hs hbd hc)
  clear hbd
  obtain ⟨n, hn⟩ : ∃ n, bs.length = n := ⟨_, rfl⟩
  rw [hn] at HC hs hc ⊢
  have HN := Lib.hid hn
  clear hn
  go_enter Try.func70, Try.ntmps70
  go_wp2_with fail
  go_loop [3, 4] (fun t i => ∃ (k : Nat) (x : Int), k ≤ n ∧ i = .int .i64 k ∧ t = .int .i64 x) (fun _ i => n - (intOf i).toNat)
  case atStart => exact ⟨0, _, Nat.zero_le _, rfl, rfl⟩
  case round =>
    obtain ⟨k, x, hk, rfl, rfl⟩ := hrel
    by_cases hlt : k < n
    · have d1 : decide ((k : Int) < (n : Int)) = true := decide_eq_true (by omega)
      by_cases h4 : k < 4000
      · have d2 : decide ((k : Int) < 4000) = true := decide_eq_true (by omega)
        rcases hc with rfl | ⟨b, off, rfl, _, hcell⟩
        · exact absurd hlt (by have := HN.out; simp at this; omega)
        · obtain ⟨y, hy⟩ : ∃ y, y = bs.getD k 0 := ⟨_, rfl⟩
          have hck := hcell k hlt
          rw [← hy] at hck
          clear hy hcell
          go_wp2_with fail
          go_round
          case rel => exact ⟨k + 1, _, by omega, by go_num, rfl⟩
          case measure => simp [intOf]; omega
      · have d2 : decide ((k : Int) < 4000) = false := decide_eq_false (by omega)
        clear hc
        go_wp2_with fail
        go_ret
        exact ⟨rfl, HC.out _, (Below.refl _ _).alloc (Nat.le_refl _) _⟩
    · have d1 : decide ((k : Int) < (n : Int)) = false := decide_eq_false (by omega)
      clear hc
      go_wp2_with fail
      go_ret
      exact ⟨rfl, HC.out _, (Below.refl _ _).alloc (Nat.le_refl _) _⟩

end Go.Proofs.Ytokhdnejaecejaa
