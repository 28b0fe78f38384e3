/-
  The methods of a grown part; more of rows. No statement of the seat is proved here.
-/
import Derived.Test.YtkeoefbkeommhaaExM
import Derived.Test.YtkeoefbkeommhaaTmI
namespace Go.Proofs.Ytkeoefbkeommhaa
open Go.RowKit

theorem gr_methS (a b c : Value) (w : World) : (method (205 + 101) 89 (.agg #[a, b, c]) "loop.example/g03224/impl.sourceFor").run Try.prog w = .ok (185, .agg #[a, b, c]) w := by kernel_rfl
theorem gr_methT (a b c : Value) (w : World) : (method (205 + 101) 89 (.agg #[a, b, c]) "loop.example/g03224/impl.targetFor").run Try.prog w = .ok (186, .agg #[a, b, c]) w := by kernel_rfl
theorem rows_ap {lo lo2 T T2 sz sz2 n n2 : Nat} {w : World} {v v2 : Value} {L L2 : List Value} (h : w.ownsRow lo T sz v n L) (h2 : w.ownsRow lo2 T2 sz2 v2 n2 L2) (hT : T ≠ T2) : v.ownBlock = none ∨ v.ownBlock ≠ v2.ownBlock := by
  cases hv : v.ownBlock with
  | none => exact .inl rfl
  | some q =>
    right
    intro e
    obtain ⟨c1, f1, g1⟩ := row_typed h q hv
    obtain ⟨c2, f2, g2⟩ := row_typed h2 q e.symm
    rw [g1] at g2
    simp at g2
    exact hT g2.2.1
theorem RowL.grP {lo lo2 n : Nat} {w0 w w' : World} {v u : Value} {xs : List Lnk} {L : List Value} (h : RowL lo w0 w v xs) (hr : w.ownsRow lo2 79 3 u n L) (hg : w.grownBy w' u.ownBlock) : RowL lo w0 w' v xs := by
  obtain ⟨us, a, b, c⟩ := h
  exact ⟨us, a, World.ownsRow.kept b hg (rows_ap b hr (by decide)), c⟩
theorem RowP.grL {lo lo2 n : Nat} {w0 w w' : World} {v u : Value} {xs : List Prg} {L : List Value} (h : RowP lo w0 w v xs) (hr : w.ownsRow lo2 68 5 u n L) (hg : w.grownBy w' u.ownBlock) : RowP lo w0 w' v xs := by
  obtain ⟨us, a, b, c⟩ := h
  exact ⟨us, a, World.ownsRow.kept b hg (rows_ap b hr (by decide)), c⟩
theorem RowP.setT {lo B j T2 : Nat} {w0 w : World} {v : Value} {xs : List Prg} (ht : Typed w B T2) (hT : T2 ≠ 79) (h : RowP lo w0 w v xs) (u : Value) : RowP lo w0 (w.setCell ⟨B, j, none⟩ u) v xs := by
  obtain ⟨us, a, b, c⟩ := h
  exact ⟨us, a, row_setTP b ht hT u, c⟩
/-- A box lies behind the growth of a row of another type. -/
theorem box_kept {lo n g T T2 sz : Nat} {w w' : World} {u : Value} {L : List Value} {cs : Array Value} (hb : w.heap[g]? = some (.cells cs T)) (hr : w.ownsRow lo T2 sz u n L) (hT : T2 ≠ T) (hg : w.grownBy w' u.ownBlock) : w'.heap[g]? = some (.cells cs T) := by
  rw [hg.block g (lt_of hb) (not_own hr hb hT)]
  exact hb
set_option maxHeartbeats 4000000 in
theorem igrS_any (ia oa na : Option Addr) (ci ic co oc cn nc : Nat) (ls : List Lnk) (j : Nat) (l : Lnk) (w : World) (h : SlL w (.slice oa co oc) ls) (hl : ls[j]? = some l) :
    Calls Try.prog 185 #[.agg #[.slice ia ci ic, .slice oa co oc, .slice na cn nc], .int .i64 (j : Int)] w fun e w' => e = .returned (.agg #[.int .i64 l.frm, .int .i64 l.out]) ∧ Below w.heap.size w w' := by
  have hlen := h.len
  have hj := (List.getElem?_eq_some_iff.1 hl).1
  obtain ⟨a, c, hsh⟩ := h.shape
  simp only [Value.slice.injEq] at hsh
  obtain ⟨rfl, hcl, rfl⟩ := hsh
  obtain ⟨gb, go, pcv, hpe, hgb, e0, e1, e2, e3, e4, es⟩ := h.atb hl
  obtain ⟨l0, l1, l2, l3, row⟩ := l
  simp only [] at e0 e1 e2 e3 e4 es ⊢
  obtain ⟨ua, uc, rfl⟩ := es.shape
  obtain ⟨ul, hul⟩ : ∃ q, q = row.length := ⟨_, rfl⟩
  rw [← hul] at e4
  subst hpe
  have i1 : (0 : Int) ≤ (j : Int) := by omega
  have i2 : (j : Int) < ((co : Nat) : Int) := by omega
  have CS := Lib.hid (fun (W : World) => isrc_any l0 l1 l2 l3 (.slice ua ul uc) W)
  clear h hl hul es hlen hj hcl
  have hb := Lib.hid (((Below.refl w.heap.size w).al (.cells #[.slice ia ci ic, .slice (some ⟨gb, go, none⟩) co oc, .slice na cn nc] 89)).al (.cells #[.int .i64 0, .int .i64 0] 133))
  have hR := Lib.hid (hp2 w (.cells #[.slice ia ci ic, .slice (some ⟨gb, go, none⟩) co oc, .slice na cn nc] 89) (.cells #[.int .i64 0, .int .i64 0] 133))
  go_enter Try.func185, Try.ntmps185
  go_wp2_with (go_at_call 112; (with_reducible refine (CS.out _).mono ?_); rintro e w3 ⟨rfl, hb3⟩; have HB3 := Lib.hid (hb.out.trans (hb3.mono hb.out.size)); have R3 := Lib.hid (blk_in hR.out hb3); obtain ⟨r0, r1⟩ := cells2 R3.out; have rl := lt_of R3.out; have rz0 := fr_of R3.out 0; have rz1 := fr_of R3.out 1; clear hb3)
  have q := set2_all R3.out (.int .i64 l0) (.int .i64 l1)
  refine bodyPost_ret (v := .agg #[.int .i64 l0, .int .i64 l1]) (by simp [results, Try.results185, go_sem, r0, r1]) rfl ⟨rfl, ?_⟩
  exact q.2.below HB3.out HB3.out.size (by omega)
set_option maxHeartbeats 4000000 in
theorem igrT_any (ia oa na : Option Addr) (ci ic co oc cn nc : Nat) (ls : List Lnk) (j : Nat) (l : Lnk) (w : World) (h : SlL w (.slice ia ci ic) ls) (hl : ls[j]? = some l) :
    Calls Try.prog 186 #[.agg #[.slice ia ci ic, .slice oa co oc, .slice na cn nc], .int .i64 (j : Int)] w fun e w' => e = .returned (.agg #[.int .i64 l.to, .int .i64 l.inn]) ∧ Below w.heap.size w w' := by
  have hlen := h.len
  have hj := (List.getElem?_eq_some_iff.1 hl).1
  obtain ⟨a, c, hsh⟩ := h.shape
  simp only [Value.slice.injEq] at hsh
  obtain ⟨rfl, hcl, rfl⟩ := hsh
  obtain ⟨gb, go, pcv, hpe, hgb, e0, e1, e2, e3, e4, es⟩ := h.atb hl
  obtain ⟨l0, l1, l2, l3, row⟩ := l
  simp only [] at e0 e1 e2 e3 e4 es ⊢
  obtain ⟨ua, uc, rfl⟩ := es.shape
  obtain ⟨ul, hul⟩ : ∃ q, q = row.length := ⟨_, rfl⟩
  rw [← hul] at e4
  subst hpe
  have i1 : (0 : Int) ≤ (j : Int) := by omega
  have i2 : (j : Int) < ((ci : Nat) : Int) := by omega
  have CS := Lib.hid (fun (W : World) => itgt_any l0 l1 l2 l3 (.slice ua ul uc) W)
  clear h hl hul es hlen hj hcl
  have hb := Lib.hid (((Below.refl w.heap.size w).al (.cells #[.slice (some ⟨gb, go, none⟩) ci ic, .slice oa co oc, .slice na cn nc] 89)).al (.cells #[.int .i64 0, .int .i64 0] 133))
  have hR := Lib.hid (hp2 w (.cells #[.slice (some ⟨gb, go, none⟩) ci ic, .slice oa co oc, .slice na cn nc] 89) (.cells #[.int .i64 0, .int .i64 0] 133))
  go_enter Try.func186, Try.ntmps186
  go_wp2_with (go_at_call 113; (with_reducible refine (CS.out _).mono ?_); rintro e w3 ⟨rfl, hb3⟩; have HB3 := Lib.hid (hb.out.trans (hb3.mono hb.out.size)); have R3 := Lib.hid (blk_in hR.out hb3); obtain ⟨r0, r1⟩ := cells2 R3.out; have rl := lt_of R3.out; have rz0 := fr_of R3.out 0; have rz1 := fr_of R3.out 1; clear hb3)
  have q := set2_all R3.out (.int .i64 l2) (.int .i64 l3)
  refine bodyPost_ret (v := .agg #[.int .i64 l2, .int .i64 l3]) (by simp [results, Try.results186, go_sem, r0, r1]) rfl ⟨rfl, ?_⟩
  exact q.2.below HB3.out HB3.out.size (by omega)
end Go.Proofs.Ytkeoefbkeommhaa
