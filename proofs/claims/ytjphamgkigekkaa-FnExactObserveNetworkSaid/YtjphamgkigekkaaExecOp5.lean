/-
  What the program's execute does at the operation 5. No statement of the seat is proved here.
-/
import Derived.Test.YtjphamgkigekkaaExec3
namespace Go.Proofs.Ytjphamgkigekkaa
open Go.RowKit

set_option maxRecDepth 100000 in
set_option maxHeartbeats 8000000 in
theorem iexec_5 (lo g r rc : Nat) (pv : Value) (p : Prg) (k : Nat) (x : Ins) (regs : List Int) (t : Int) (w : World) (hp : PrgV w pv p) (hok : okP p = true) (hx : p.code[k]? = some x) (hop : x.op = 5)
    (hg : w.heap[g]? = some (.cells #[.int .i64 k, .slice (some ⟨r, 0, none⟩) 4 rc] 98)) (hr : Own lo w (.slice (some ⟨r, 0, none⟩) 4 rc) regs) (hlen : regs.length = 4) (hs : isS regs = true) :
    Calls Try.prog 162 #[pv, .pointer (some ⟨g, 0, none⟩), .int .i64 t] w fun e w' => e = .returned (.int .i64 (outI x regs)) ∧
      w'.heap[g]? = some (.cells #[.int .i64 (pcI x regs k), .slice (some ⟨r, 0, none⟩) 4 rc] 98) ∧ Own lo w' (.slice (some ⟨r, 0, none⟩) 4 rc) (regsI x regs t) ∧ Two g r w w' := by
  have hne : g ≠ r := hr.blk_ne hg (by decide)
  obtain ⟨c, rfl, hc⟩ := hp
  have hkl : k < p.code.length := (List.getElem?_eq_some_iff.1 hx).1
  have hP := okP_parts hok
  have hxo := hP.2 x (List.mem_of_getElem? hx)
  have hk24 : k < 24 := by omega
  obtain ⟨pa, cap, rfl, _, _, _, hrest⟩ := hc
  obtain ⟨n, hn⟩ : ∃ n, n = p.code.length := ⟨_, rfl⟩
  rw [← hn] at hkl ⊢
  rcases hrest with h | ⟨b, off, rfl, hbl, hcell⟩
  · rw [h] at hx; simp at hx
  obtain ⟨c0, c1, c2, c3⟩ := hcell k x hx
  obtain ⟨pi, hpi⟩ : ∃ z, z = p.ins := ⟨_, rfl⟩
  obtain ⟨po, hpo⟩ : ∃ z, z = p.outs := ⟨_, rfl⟩
  rw [← hpi, ← hpo] at hxo ⊢
  have HXO := Lib.hid hxo
  have HG := Lib.hid hg
  have HR := Lib.hid hr
  have HL := Lib.hid hlen
  have HS := Lib.hid hs
  have HNE := Lib.hid hne
  obtain ⟨g0, g1⟩ := cells2 hg
  have glt := lt_of hg
  have hb := Lib.hid ((Below.refl w.heap.size w).al (.cells #[.int .i64 pi, .int .i64 po, .slice (some ⟨b, off, none⟩) n cap] 86))
  have hBd := okI_a hxo
  have hOps := okI_ops hxo
  have HOPQ := hop
  clear hx hP hok hn hpi hpo hcell hxo hg hr hlen hs hop hne
  obtain ⟨op, xa, xb, xc⟩ := x
  simp only [] at c0 c1 c2 c3 hBd hOps HOPQ
  subst HOPQ
  have wk : wrap64 ((k : Int) + 1) = (k : Int) + 1 := IntWalk.wrap64_in _ (by omega)
  go_enter Try.func162, Try.ntmps162
  go_upto_region 1 with fail
  go_cut [7] from 8 (fun s7 wr => ∃ bx, s7 = .pointer (some ⟨bx, 0, none⟩) ∧ Hid (wr.heap[bx]? = some (.cells #[.int .i64 5, .int .i64 xa, .int .i64 xb, .int .i64 xc] 156)) ∧ Hid (w.heap.size ≤ bx) ∧ Hid (Below w.heap.size w wr))
  case first =>
    go_region_with (fail)
    all_goals
      go_wp2_with fail
      go_meet
      case rel => exact ⟨_, rfl, Lib.hid (by first | exact hp2 _ _ _ | exact hp2d _ _ _), Lib.hid (by omega), Lib.hid (by first | exact ((Below.refl _ _).al _).drew.al _ | exact ((Below.refl _ _).al _).al _)⟩
  case rest =>
    obtain ⟨bx, rfl, HBX, HBS, HB⟩ := hcut
    have hG := blk_in HG.out HB.out
    have hR := HR.out.below HB.out
    have hRl := (hR.lt r rfl).2
    have hbx := HBS.out
    have n1 : g ≠ bx := by omega
    have n2 : bx ≠ g := by omega
    have hr0 := (HR.out.lt r rfl).2
    have n3 : r ≠ bx := by omega
    have n4 : bx ≠ r := by omega
    have n5 : g ≠ r := HNE.out
    have n6 : r ≠ g := fun e => n5 e.symm
    obtain ⟨ka, hka⟩ : ∃ q : Nat, xa = q := ⟨xa.toNat, by omega⟩
    subst hka
    obtain ⟨ra, fa⟩ := hR.reg HL.out ka (by omega)
    obtain ⟨rv, hrv⟩ : ∃ z, z = rg regs (ka : Int) := ⟨_, rfl⟩
    rw [← hrv] at ra
    have HRV := Lib.hid hrv
    obtain ⟨g0', g1'⟩ := cells2 hG
    have z0 := fr_of hG 0
    obtain ⟨x0, x1, x2, x3⟩ := cells4 HBX.out
    have lg := lt_of hG
    have HG1 := Lib.hid (set0_blk hG (.int .i64 ((k : Int) + 1)))
    have HBX1 := Lib.hid (setR_blk (r := g) (j := 0) HBX.out n2 (.int .i64 ((k : Int) + 1)))
    have HR1 := Lib.hid (hR.setG HNE.out (j := 0) (.int .i64 ((k : Int) + 1)))
    have HT1 := Lib.hid ((Two.of_below (g := g) (r := r) HB.out).setG 0 (.int .i64 ((k : Int) + 1)))
    have hka3 : ka ≤ 3 := by omega
    clear hG hR hrv g0 g1 glt hRl hr0 hbx c0 c1 c2 c3 hbl
    clear hOps hBd
    · skip
      go_wp2_with fail
      go_region_with (go_at_call 163; refine (icomp_any ⟨5, ka, xb, xc⟩ _ regs pi po _ _ (HR1.out.sl.below (by first | exact Below.refl _ _ | exact (Below.refl _ _).drew)) HL.out HS.out HXO.out (by simp)).mono ?_; rintro e w3 ⟨rfl, hb3⟩; have hc3 : Below (wc.setCell ⟨g, 0, none⟩ (.int .i64 ((k : Int) + 1))).heap.size (wc.setCell ⟨g, 0, none⟩ (.int .i64 ((k : Int) + 1))) w3 := (by first | exact hb3 | exact cr_d hb3); have HB3 := Lib.hid hc3; have hr3 := HR1.out.below hc3; have qq := hr3.reg HL.out ka (by omega); obtain ⟨ra3, fa3⟩ := qq; have HR3 := Lib.hid hr3; have hg3 := blk_in HG1.out hc3; have hx3 := blk_in HBX1.out hc3; obtain ⟨q0, q1⟩ := cells2 hg3; obtain ⟨y0, y1, y2, y3⟩ := cells4 hx3; clear hb3 hc3 hr3 hg3 hx3)
      all_goals
        go_wp2_with fail
        go_ret
        refine ⟨by simp [outI], ?_, ?_, ?_⟩
        · have e : pcI ⟨5, ka, xb, xc⟩ regs k = (k : Int) + 1 := by simp [pcI]
          rw [e]; exact setR_blk (blk_in HG1.out HB3.out) HNE.out _
        · have e : regsI ⟨5, ka, xb, xc⟩ regs t = regs.set ka (valI ⟨5, ka, xb, xc⟩ regs 0) := by simp [regsI, valI]
          rw [e]; exact HR3.out.setR HL.out _
        · first | exact (HT1.out.bel HB3.out).setR ka _ | exact ((HT1.out.bel HB3.out).setR ka _).drew1

end Go.Proofs.Ytjphamgkigekkaa
