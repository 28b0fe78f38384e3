/-
  The state at first: StartState of the model and of the program. No statement of the seat is proved here.
-/
import Derived.Test.YtmfagmfclehdbaaGrowA
import Derived.Test.YtmfagmfclehdbaaActsN
import Derived.Deep.Cut
import Derived.Deep.CutRange
import Derived.Deep.RegionHeld3
import Derived.Deep.RegionLaw
import Derived.Deep.AppendLies
import Derived.Maps.AppendAt
import Derived.Outline
namespace Go.Proofs.Ytmfagmfclehdbaa
open Go.RowKit

def startStateR0 (n : Net) : Stt := if okN n then ⟨n.progs.map newActorR0, toksL n, toksL n, 0⟩ else ⟨[], [], [], 0⟩
theorem start_no {n : Net} (h : okN n = false) : startStateR0 n = ⟨[], [], [], 0⟩ := by unfold startStateR0; rw [h]; rfl
theorem start_yes {n : Net} (h : okN n = true) : startStateR0 n = ⟨n.progs.map newActorR0, toksL n, toksL n, 0⟩ := by unfold startStateR0; rw [h]; rfl
theorem startState_bd (n : Net) : szS (startStateR0 n) ≤ 100000 := by
  cases h : okN n with
  | false => rw [start_no h]; simp [szS, sumA, sumR]
  | true =>
    rw [start_yes h]
    have hl := okN_len h
    have h1 := sumA_le (c := 4) (n.progs.map newActorR0) (fun x hx => by
      obtain ⟨p, _, rfl⟩ := List.mem_map.1 hx
      unfold newActorR0; split <;> simp)
    have h2 := sumT_le (c := 400) (toksL n) (fun xs hx => by
      unfold toksL at hx
      obtain ⟨l, hl, rfl⟩ := List.mem_map.1 hx
      exact isS_len (tok_isS h hl))
    have h3 := sumT_R (toksL n)
    have h4 : (toksL n).length = n.links.length := by unfold toksL; simp
    rw [List.length_map] at h1
    have h0 : szS ⟨n.progs.map newActorR0, toksL n, toksL n, 0⟩ = sumA (n.progs.map newActorR0) + (sumR (toksL n) + sumR (toksL n)) := rfl
    rw [h0]
    omega
theorem set4_all {w : World} {g T : Nat} {u0 u1 u2 u3 : Value} (h : w.heap[g]? = some (.cells #[u0, u1, u2, u3] T)) (a b c d : Value) :
    ((((w.setCell ⟨g, 0, none⟩ a).setCell ⟨g, 1, none⟩ b).setCell ⟨g, 2, none⟩ c).setCell ⟨g, 3, none⟩ d).heap[g]? = some (.cells #[a, b, c, d] T) ∧ Out g (g + 1) w ((((w.setCell ⟨g, 0, none⟩ a).setCell ⟨g, 1, none⟩ b).setCell ⟨g, 2, none⟩ c).setCell ⟨g, 3, none⟩ d) := by
  have h0 := set4_0 h a
  have h1 := set4_1 h0 b
  have h2 := set4_2 h1 c
  refine ⟨?_, ((((Out.refl g (g + 1) w).setC (p := ⟨g, 0, none⟩) (Nat.le_refl _) (by simp) _).setC (p := ⟨g, 1, none⟩) (Nat.le_refl _) (by simp) _).setC (p := ⟨g, 2, none⟩) (Nat.le_refl _) (by simp) _).setC (p := ⟨g, 3, none⟩) (Nat.le_refl _) (by simp) _⟩
  rw [heap_setCell_same _ g 3 #[a, b, c, u3] T d h2]; rfl
theorem Fam.outB {lo B T : Nat} {w w' : World} {us : List Value} {xss : List (List Int)} {cs : Array Value} (hF : Fam lo w us xss) (hB : w.heap[B]? = some (.cells cs T)) (h1 : T ≠ 3) (ho : Out B (B + 1) w w') : Fam lo w' us xss := by
  refine ⟨hF.len, fun i u xs hu hx => ?_, hF.apart⟩
  have hv := hF.own i u xs hu hx
  refine ⟨hv.1, ?_⟩
  rcases hv.2 with hn | ⟨g, cap, cur, rfl, hbb, hg, rest⟩
  · exact .inl hn
  · exact .inr ⟨g, cap, cur, rfl, hbb, (ho.block g (lt_of hg) (by have : g ≠ B := (fun e => by subst e; rw [hg] at hB; simp at hB; exact h1 hB.2.symm); omega)).trans hg, rest⟩
theorem AcH.outB {lo hi B T : Nat} {w w' : World} {a : Value} {xs : List Act} {cs : Array Value} (h : AcH lo hi w a xs) (hB : w.heap[B]? = some (.cells cs T)) (h1 : T ≠ 3) (h2 : T ≠ 74) (ho : Out B (B + 1) w w') : AcH lo hi w' a xs := by
  obtain ⟨us, hv, hF, hh⟩ := h
  refine ⟨us, hv.keep (fun k cur _ _ hk => (ho.block k (lt_of hk) (by have : k ≠ B := (fun e => by subst e; rw [hk] at hB; simp at hB; exact h2 hB.2.symm); omega)).trans hk), hF.outB hB h1 ho, hh⟩
theorem grow_box {w w' : World} {row : Option Nat} {o lit : Obj} {B : Nat} (h : w.heap[B]? = some o) (hg : (w.alloc lit).grownBy w' row) (hne : some B ≠ row) : w'.heap[B]? = some o :=
  (hg.block B (by have := lt_of h; simp; omega) hne).trans ((Below.heap_alloc _ _ _ (lt_of h)).trans h)
theorem QR.mono {lo hi lo' hi' : Nat} {w : World} {q r : Value} {Q S : List (List Int)} (h : QR lo hi w q r Q S) (h1 : lo' ≤ lo) (h2 : hi ≤ hi') : QR lo' hi' w q r Q S := by
  obtain ⟨u2, u3, v2, v3, l2, l3, hF, hh⟩ := h
  exact ⟨u2, u3, v2.mono h1 h2, v3.mono h1 h2, l2, l3, hF.mono h1, fun x hx b e => Nat.lt_of_lt_of_le (hh x hx b e) h2⟩


set_option maxRecDepth 100000 in
set_option maxHeartbeats 16000000 in
theorem sstart_any (v : Value) (n : Net) (w : World) (h : NetV w v n) :
    Calls Try.prog 12 #[v] w fun e w' => ∃ r, e = .returned r ∧ StR w.heap.size w'.heap.size w' r (startStateR0 n) ∧ Below w.heap.size w w' := by
  have CN := Lib.hid (fun (W : World) (hw : Below w.heap.size w W) => sisnet_any v n W (h.below hw))
  have CT0 := fun (W : World) (hw : Below w.heap.size w W) (hok : okN n = true) => stoks_any v n W (h.below hw) hok
  obtain ⟨pv, lv, rfl, hp, hl⟩ := h
  have LP := hp.len
  have LL := hl.len
  have HP := Lib.hid hp
  have HL := Lib.hid hl
  obtain ⟨la, lcap, rfl⟩ := hl.shape
  obtain ⟨pa, pcap, rfl⟩ := hp.shape
  obtain ⟨m, hm⟩ : ∃ m, m = n.progs.length := ⟨_, rfl⟩
  obtain ⟨ll, hll⟩ : ∃ m, m = n.links.length := ⟨_, rfl⟩
  rw [← hm, ← hll] at CN CT0 ⊢
  rw [← hm] at HP LP
  rw [← hll] at HL LL
  have NP := Lib.hid hm
  have NL := Lib.hid hll
  have CT := Lib.hid CT0
  clear hp hl hm hll CT0
  obtain ⟨R, hR⟩ : ∃ R, R = startStateR0 n := ⟨_, rfl⟩
  have HRR := Lib.hid hR
  rw [← hR]
  clear hR
  have hb := Lib.hid (((Below.refl w.heap.size w).al (.cells #[.slice pa m pcap, .slice la ll lcap] 35)).al (.cells #[.slice none 0 0, .slice none 0 0, .slice none 0 0, .int .i64 0] 30))
  have hH := Lib.hid (hp21 w (.cells #[.slice pa m pcap, .slice la ll lcap] 35) (.cells #[.slice none 0 0, .slice none 0 0, .slice none 0 0, .int .i64 0] 30))
  have hH1 := Lib.hid (hp2 w (.cells #[.slice pa m pcap, .slice la ll lcap] 35) (.cells #[.slice none 0 0, .slice none 0 0, .slice none 0 0, .int .i64 0] 30))
  obtain ⟨i0, hi, hz0, hz1, hz2⟩ := infoAc_parts
  obtain ⟨j0, hj, hy0, hy1, hy2⟩ := infoS_parts
  cases ho : okN n with
  | false =>
    rw [ho] at CN
    have HE := Lib.hid (HRR.out.trans (start_no ho))
    clear ho
    obtain rfl := HE.out
    go_enter Try.func12, Try.ntmps12
    go_wp2_with (go_at_call 53; with_reducible refine (CN.out _ hb.out).mono ?_; rintro e w2 ⟨rfl, hb1⟩; have HB2 := Lib.hid (hb.out.trans (hb1.mono hb.out.size)); have G2 := Lib.hid (blk_in hH.out hb1); have J2 := Lib.hid (blk_in hH1.out hb1); obtain ⟨k0, k1⟩ := cells2 G2.out; have gl := lt_of G2.out; obtain ⟨r0, r1, r2, r3⟩ := cells4s J2.out; have rl := lt_of J2.out; have rz0 := fr_of J2.out 0; have rz1 := fr_of J2.out 1; have rz2 := fr_of J2.out 2; have rz3 := fr_of J2.out 3; clear hb1)
    refine bodyPost_ret (v := .agg #[.slice none 0 0, .slice none 0 0, .slice none 0 0, .int .i64 0]) (by simp [results, Try.results12, go_sem, r0, r1, r2, r3]) rfl ⟨_, rfl, stR_nil _ _ _ _, ?_⟩
    first
    | exact HB2.out
    | exact (((HB2.out.setCell (by simp) _).setCell (by simp) _).setCell (by simp) _).setCell (by simp) _
  | true =>
    rw [ho] at CN
    have HOK := Lib.hid ho
    have HE := Lib.hid (HRR.out.trans (start_yes ho))
    have hm12 : m ≤ 12 := by rw [NP.out]; exact (okN_len ho).1
    have hll30 : ll ≤ 30 := by rw [NL.out]; exact (okN_len ho).2.1
    clear ho
    obtain ⟨XA, hXA⟩ : ∃ X, X = n.progs.map newActorR0 := ⟨_, rfl⟩
    rw [← hXA] at HE
    have HXA := Lib.hid hXA
    clear hXA
    have HTL := Lib.hid (show (toksL n).length = ll by unfold toksL; rw [List.length_map, NL.out])
    have HXL := Lib.hid (show XA.length = m by rw [HXA.out, NP.out, List.length_map])
    go_enter Try.func12, Try.ntmps12
    go_wp2_with (go_at_call 53; with_reducible refine (CN.out _ hb.out).mono ?_; rintro e w2 ⟨rfl, hb1⟩; have HB2 := Lib.hid (hb.out.trans (hb1.mono hb.out.size)); have G2 := Lib.hid (blk_in hH.out hb1); have J2 := Lib.hid (blk_in hH1.out hb1); obtain ⟨k0, k1⟩ := cells2 G2.out; have gl := lt_of G2.out; obtain ⟨r0, r1, r2, r3⟩ := cells4s J2.out; have rl := lt_of J2.out; have rz0 := fr_of J2.out 0; have rz1 := fr_of J2.out 1; have rz2 := fr_of J2.out 2; have rz3 := fr_of J2.out 3; clear hb1)
    clear k0 k1 gl r0 r1 r2 r3 rl rz0 rz1 rz2 rz3
    obtain ⟨k0, k1⟩ := cells2 G2.out
    have gl := lt_of G2.out
    go_cut [3] from 4 (fun s3 wr => ∃ (B : Nat) (qa : Option Addr) (qc : Nat) (ra : Option Addr) (rc : Nat), s3 = .pointer (some ⟨B, 0, none⟩) ∧ Hid (wr.heap[B]? = some (.cells #[.slice none 0 0, .slice qa ll qc, .slice ra ll rc, .int .i64 0] 30)) ∧ Hid (w2.heap.size ≤ B) ∧ Hid (QR w2.heap.size wr.heap.size wr (.slice qa ll qc) (.slice ra ll rc) (toksL n) (toksL n)) ∧ Hid (Below w2.heap.size w2 wr))
    case first =>
      go_region_held3 (fun w' => w'.cell? ⟨w.heap.size, 0, none⟩ = some (.slice pa m pcap) ∧ w'.cell? ⟨w.heap.size, 1, none⟩ = some (.slice la ll lcap)) (go_keep) (first | (go_at_call 54; refine (CT.out _ (HB2.out.trans ((HC7.out.trans ((by first | with_reducible exact Below.refl _ _ | with_reducible exact (Below.refl _ _).drew | with_reducible exact (Below.refl _ _).al _ | with_reducible exact ((Below.refl _ _).al _).drew | with_reducible exact (Below.refl _ _).drew.al _ : Below W7.heap.size W7 _).mono HC7.out.size)).mono HB2.out.size)) HOK.out).mono ?_; rintro e W8 ⟨v8, rfl, o8, hb8⟩; have hs8 := (show Below W7.heap.size W7 W8 by first | with_reducible exact hb8 | with_reducible exact cr_d hb8 | with_reducible exact cr_1 hb8 | with_reducible exact cr_1d hb8 | with_reducible exact cr_d1 hb8); have HC8 := Lib.hid (HC7.out.trans (hs8.mono HC7.out.size)); have RW8 := Lib.hid (OutH.below R7.out hs8); have R8 := Lib.hid (show RowsH W7.heap.size W8.heap.size W8 v8 (toksL n) from OutH.mono o8 (by first | exact Nat.le_refl _ | (simp; done)) (Nat.le_refl _)); have G8 := Lib.hid (blk_in G7.out hs8); (first | (have Z8 := Lib.hid (blk_in Z7.out hs8)) | (have Z8 := Lib.hid (show W8.heap[W7.heap.size]? = some (.cells #[.slice none 0 0, .slice none 0 0, .slice none 0 0, .int .i64 0] 30) by first | exact blk_in (hp1 W7 _) hb8 | exact blk_in (hp1 W7.drew _) hb8 | exact blk_in (W := (W7.alloc (.cells #[.slice none 0 0, .slice none 0 0, .slice none 0 0, .int .i64 0] 30)).drew) (hp1 W7 _) hb8)) | skip); (try (obtain ⟨z0, z1, z2, z3⟩ := cells4s Z8.out; have zf0 := fr_of Z8.out 0; have zf1 := fr_of Z8.out 1; have zf2 := fr_of Z8.out 2; have zf3 := fr_of Z8.out 3; have zl := lt_of Z8.out)); obtain ⟨e8_0, e8_1⟩ := cells2 G8.out; have l8 := lt_of G8.out; obtain ⟨x8, y8, hv8⟩ := (OutH.shape R8.out).1; rw [HTL.out] at hv8; subst hv8; have na8 : ¬ W8.heap.size = w.heap.size := (by omega); have nb8 : ¬ w.heap.size = W8.heap.size := (by omega); have hz8 : W7.heap.size ≤ W8.heap.size := hs8.size; clear o8 hb8 hs8) | (go_at_call 54; refine (CT.out _ (HB2.out.trans ((by first | with_reducible exact Below.refl _ _ | with_reducible exact (Below.refl _ _).drew | with_reducible exact (Below.refl _ _).al _ | with_reducible exact ((Below.refl _ _).al _).drew | with_reducible exact (Below.refl _ _).drew.al _ : Below w2.heap.size w2 _).mono HB2.out.size)) HOK.out).mono ?_; rintro e W7 ⟨v7, rfl, o7, hb7⟩; have hs7 := (show Below w2.heap.size w2 W7 by first | with_reducible exact hb7 | with_reducible exact cr_d hb7 | with_reducible exact cr_1 hb7 | with_reducible exact cr_1d hb7 | with_reducible exact cr_d1 hb7); have HC7 := Lib.hid hs7; have R7 := Lib.hid (show RowsH w2.heap.size W7.heap.size W7 v7 (toksL n) from OutH.mono o7 (by first | exact Nat.le_refl _ | (simp; done)) (Nat.le_refl _)); have G7 := Lib.hid (blk_in G2.out hs7); (try have Z7 := Lib.hid (show W7.heap[w2.heap.size]? = some (.cells #[.slice none 0 0, .slice none 0 0, .slice none 0 0, .int .i64 0] 30) by first | exact blk_in (hp1 w2 _) hb7 | exact blk_in (hp1 w2.drew _) hb7 | exact blk_in (W := (w2.alloc (.cells #[.slice none 0 0, .slice none 0 0, .slice none 0 0, .int .i64 0] 30)).drew) (hp1 w2 _) hb7)); obtain ⟨e7_0, e7_1⟩ := cells2 G7.out; have l7 := lt_of G7.out; obtain ⟨x7, y7, hv7⟩ := (OutH.shape R7.out).1; rw [HTL.out] at hv7; subst hv7; have na7 : ¬ W7.heap.size = w.heap.size := (by omega); have nb7 : ¬ w.heap.size = W7.heap.size := (by omega); have na2 : ¬ w2.heap.size = w.heap.size := (by omega); have nb2 : ¬ w.heap.size = w2.heap.size := (by omega); have hz7 : w2.heap.size ≤ W7.heap.size := hs7.size; clear o7 hb7 hs7))
      · go_wp2_with fail
        go_meet
        case rel =>
          have HQ := QR.of RW8.out R8.out (Nat.le_refl _) hz7 hz8
          refine ⟨_, x7, y7, x8, y8, rfl, Lib.hid (hp1 _ _), Lib.hid HC8.out.size, Lib.hid ?_, Lib.hid (HC8.out.al _)⟩
          exact QR.mono (HQ.below ((Below.refl _ _).al _)) (Nat.le_refl _) (by simp)
      · go_wp2_with fail
        go_meet
        case rel =>
          have HQ := QR.of RW8.out R8.out (Nat.le_refl _) hz7 hz8
          have q := set4_all Z8.out (.slice none 0 0) (.slice x7 ll y7) (.slice x8 ll y8) (.int .i64 0)
          refine ⟨_, x7, y7, x8, y8, rfl, Lib.hid ?_, Lib.hid hz7, Lib.hid ?_, Lib.hid ?_⟩
          · exact q.1
          · exact (HQ.outB Z8.out (by decide) (by decide) q.2).mono (Nat.le_refl _) q.2.size
          · exact q.2.below HC8.out HC8.out.size hz7
      · go_wp2_with fail
        go_meet
        case rel =>
          have HQ := QR.of RW8.out R8.out (Nat.le_refl _) hz7 hz8
          have q := set4_all Z8.out (.slice none 0 0) (.slice x7 ll y7) (.slice x8 ll y8) (.int .i64 0)
          refine ⟨_, x7, y7, x8, y8, rfl, Lib.hid ?_, Lib.hid (Nat.le_refl _), Lib.hid ?_, Lib.hid ?_⟩
          · exact q.1
          · exact (HQ.outB Z8.out (by decide) (by decide) q.2).mono (Nat.le_refl _) q.2.size
          · exact q.2.below HC8.out HC8.out.size (Nat.le_refl _)
    rename World => w3
    obtain ⟨B, qa, qc, ra, rc, rfl, HS3, HBB, HQ3, HC3⟩ := hcut
    have HB3 := Lib.hid (HB2.out.trans (HC3.out.mono HB2.out.size))
    have G3 := Lib.hid (blk_in G2.out HC3.out)
    have J3 := Lib.hid (blk_in J2.out HC3.out)
    have HBL := Lib.hid (lt_of HS3.out)
    have HB0 := Lib.hid (show w.heap.size + 1 < B by have := lt_of J2.out; have := HBB.out; omega)
    clear k0 k1 gl
    obtain ⟨k0, k1⟩ := cells2 G3.out
    have gl := lt_of G3.out
    go_wp2_with fail
    clear k0 k1 gl
    go_loopw [18] (fun i wr => ∃ (k : Nat) (oa : Option Addr) (oc : Nat), k ≤ m ∧ i = .int .i64 k ∧ Hid (wr.heap[B]? = some (.cells #[.slice oa k oc, .slice qa ll qc, .slice ra ll rc, .int .i64 0] 30)) ∧ Hid (GrowA w3.heap.size k wr (.slice oa k oc) XA) ∧ Hid (Out B (B + 1) w3 wr)) (fun i _ => m - (intOf i).toNat)
    case atStart => exact ⟨0, none, 0, Nat.zero_le _, rfl, HS3, Lib.hid (GrowA.nil _ _ _), Lib.hid (Out.refl _ _ _)⟩
    case round =>
      obtain ⟨k, oa, oc, hk, rfl, HS, HG, HO⟩ := hrel
      have HBW := Lib.hid (HO.out.below HB3.out HB3.out.size (by have := HB0.out; omega))
      by_cases hlt : k < m
      case pos =>
        obtain ⟨x, hx⟩ : ∃ x, n.progs[k]? = some x := ⟨_, List.getElem?_eq_getElem (by rw [← NP.out]; exact hlt)⟩
        obtain ⟨gb, go, pcv, rfl, hgb, e0, e1, e2, es⟩ := (HP.out.below HBW.out).atb hx
        have HX := Lib.hid (show XA[k]? = some (newActorR0 x) by rw [HXA.out, List.getElem?_map, hx]; rfl)
        clear hx
        have ES := Lib.hid es
        obtain ⟨pi, po, pc⟩ := x
        simp only [] at e0 e1 e2 ES
        obtain ⟨ua, uc, rfl⟩ := es.shape
        have CA0 := fun (W : World) (hw : Below wr.heap.size wr W) => snew_any (.agg #[.int .i64 pi, .int .i64 po, .slice ua pc.length uc]) ⟨pi, po, pc⟩ W ⟨_, rfl, ES.out.below hw⟩
        obtain ⟨ax, hax⟩ : ∃ a, a = newActorR0 ⟨pi, po, pc⟩ := ⟨_, rfl⟩
        rw [← hax] at HX CA0
        clear hax
        obtain ⟨apc, ars⟩ := ax
        obtain ⟨ul, hul⟩ : ∃ q, q = pc.length := ⟨_, rfl⟩
        rw [← hul] at e2 CA0
        obtain ⟨al, hal⟩ : ∃ q, q = ars.length := ⟨_, rfl⟩
        have HAL := Lib.hid hal
        clear hul es hal ES
        obtain ⟨us, lus, ltk, hU1, hU2⟩ := HG.out
        have HU0 := Lib.hid hU1
        have HU2 := Lib.hid hU2
        have HUB := Lib.hid (show ∀ u q, u ∈ us → u.ownBlock = some q → q < wr.heap.size from fun u q hu he => fam_hi hU2 u hu q he)
        have HNE := Lib.hid (show some B ≠ (Value.slice oa k oc).ownBlock from fun e => by have := (World.ownsRow.lt HU0.out B e.symm).1; have := HBL.out; omega)
        clear hU1 hU2
        have hz1w : w3.heap.size ≤ wr.heap.size := HO.out.size
        have B0 := Lib.hid HS.out
        go_upto_region 7 with fail
        generalize hW : wr.alloc (.cells #[.int .i64 pi, .int .i64 po, .slice ua ul uc] 65) = W1
        have HC1 := Lib.hid (show Below wr.heap.size wr W1 by rw [← hW]; exact (Below.refl _ _).al _)
        obtain ⟨p0, p1, p2⟩ := cells3 (show W1.heap[wr.heap.size]? = _ by rw [← hW]; exact hp1 _ _)
        have pl := lt_of (show W1.heap[wr.heap.size]? = _ by rw [← hW]; exact hp1 _ _)
        clear hW
        have B1 := Lib.hid (blk_in HS.out HC1.out)
        have HU1 := Lib.hid (row_below HU0.out HC1.out)
        obtain ⟨b0, b1, b2, b3⟩ := cells4s B1.out
        have bl := lt_of B1.out
        have bz := fr_of B1.out 0
        have hz1' : w3.heap.size ≤ W1.heap.size := Nat.le_trans hz1w HC1.out.size
        have CA := Lib.hid (fun (W : World) (hw : Below W1.heap.size W1 W) => (show Calls Try.prog 55 #[.agg #[.int .i64 pi, .int .i64 po, .slice ua ul uc]] W fun e w' => ∃ c, e = .returned (.agg #[.int .i64 apc, c]) ∧ Own W.heap.size w' c ars ∧ Below W.heap.size W w' from (CA0 W (HC1.out.trans (hw.mono HC1.out.size))).mono fun e w' ⟨v', he, ⟨c, hv, ho⟩, hb⟩ => ⟨c, by rw [he, hv], ho, hb⟩))
        clear CA0
        refine wp_open' ?_
        intro K9 hK9
        go_cut [18] from 18 to 29 (fun i wz => ∃ (oa' : Option Addr) (oc' : Nat), i = .int .i64 k ∧ Hid (wz.heap[B]? = some (.cells #[.slice oa' (k + 1) oc', .slice qa ll qc, .slice ra ll rc, .int .i64 0] 30)) ∧ Hid (GrowA w3.heap.size (k + 1) wz (.slice oa' (k + 1) oc') XA) ∧ Hid (Out B (B + 1) w3 wz))
        case first =>
          go_region_law (first | (refine Go.step_append_lies _ rfl (.tmp 23) (.tmp 26) 27 rfl w3.heap.size 74 i0 (.agg #[.int .i64 0, .slice none 0 0]) 2 32 Try.underlying27 hi hz0 hz1 hz2 rfl (by decide) (.slice oa k oc) k (cellsA (XA.take k) us) rfl (World.ownsRow.alloc (row_below HU1.out hs5.out) _) ⟨W5.heap.size, 0, none⟩ 1 1 [.int .i64 apc, .slice xa al xc] rfl rfl (lit_cells W5 #[.int .i64 apc, .slice xa al xc] 74) (by intro u hu; simp at hu; rcases hu with rfl | rfl <;> rfl) (by omega) (by unfold maxLen; omega) (by omega) (by have := hz5; simp; omega) (W5.heap.size + 1) (by simp) ?_; intro g gc w6 hown hgrow hor hglt; have BB := grow_box B5.out hgrow HNE.out; obtain ⟨d0, d1, d2, d3⟩ := cells4s BB; have dz := fr_of BB 0; have dl := lt_of BB; have HOW := Lib.hid hown; have HGR := Lib.hid hgrow; have HB6 := Lib.hid BB; clear hown hgrow hor hglt BB) | (go_simp; go_at_call 55; refine (CA.out _ (by first | with_reducible exact Below.refl _ _ | with_reducible exact (Below.refl _ _).drew)).mono ?_; rintro e W5 ⟨c5, rfl, o5, hb5⟩; have hs5 := Lib.hid (show Below W1.heap.size W1 W5 by first | with_reducible exact hb5 | with_reducible exact cr_d hb5); have O5 := Lib.hid (Own.mono (lo' := W1.heap.size) o5 (by first | exact Nat.le_refl _ | simp)); have hz5 : w3.heap.size ≤ W5.heap.size := Nat.le_trans hz1' hs5.out.size; have B5 := Lib.hid (blk_in B1.out hs5.out); obtain ⟨y0, y1, y2, y3⟩ := cells4s B5.out; have yz := fr_of B5.out 0; have yl := lt_of B5.out; obtain ⟨xa, xc, hx5⟩ := O5.out.sl.shape; rw [← HAL.out] at hx5; subst hx5; clear o5 hb5))
          all_goals (
            go_wp2_with fail
            go_meet
            case rel =>
              refine ⟨some ⟨g, 0, none⟩, gc, rfl, Lib.hid (set4_0 HB6.out _), Lib.hid ?_, Lib.hid ?_⟩
              · have F5 := HU2.out.below (HC1.out.trans (hs5.out.mono HC1.out.size))
                have S := GrowA.step (a := ⟨apc, ars⟩) (w3 := W5.alloc (.cells #[.int .i64 apc, .slice xa al xc] 74)) lus (World.ownsRow.alloc (row_below HU1.out hs5.out) _) (F5.below ((Below.refl _ _).al _)) (O5.out.below ((Below.refl _ _).al _)) (fun u q hu he => Nat.lt_of_lt_of_le (HUB.out u q hu he) HC1.out.size) hz1' HX.out HOW.out HGR.out
                exact S.out ((Out.refl B (B + 1) w6).setC (p := ⟨B, 0, none⟩) (Nat.le_refl _) (Nat.lt_succ_self _) _) HBL.out
              · exact ((((HO.out.belowHi HC1.out).belowHi hs5.out).al _).grownHi HGR.out (fun q e => (World.ownsRow.lt HU1.out q e).1)).setC (p := ⟨B, 0, none⟩) (Nat.le_refl _) (Nat.lt_succ_self _) _)
        case rest =>
          obtain ⟨oa', oc', rfl, HS', HG', HO'⟩ := hcut
          refine hK9 _ _ ?_
          go_wp2_with fail
          go_roundw
          case rel => exact ⟨k + 1, oa', oc', by omega, by go_num, HS', HG', HO'⟩
          case measure => simp [intOf]; omega
      obtain rfl : k = m := by omega
      have HAC := Lib.hid (HG.out.acH HXL.out)
      have HQR := Lib.hid (HQ3.out.outB HS3.out (by decide) (by decide) HO.out)
      have JR := Lib.hid (HO.out.blk J3.out (.inl HB0.out))
      obtain ⟨s0, s1, s2, s3⟩ := cells4s HS.out
      have sl := lt_of HS.out
      obtain ⟨r0, r1, r2, r3⟩ := cells4s JR.out
      have rl := lt_of JR.out
      have rz0 := fr_of JR.out 0
      have rz1 := fr_of JR.out 1
      have rz2 := fr_of JR.out 2
      have rz3 := fr_of JR.out 3
      have q := set4_all JR.out (.slice oa k oc) (.slice qa ll qc) (.slice ra ll rc) (.int .i64 0)
      have Q1 := Lib.hid q.1
      have Q2 := Lib.hid q.2
      clear q
      go_wp2_with fail
      refine bodyPost_ret (v := .agg #[.slice oa k oc, .slice qa ll qc, .slice ra ll rc, .int .i64 0]) (by simp [results, Try.results12, go_sem, r0, r1, r2, r3]) rfl ⟨_, rfl, ?_, ?_⟩
      · rw [HE.out]
        have z := StR.ofQR (s := ⟨XA, toksL n, toksL n, 0⟩) HAC.out HQR.out (Nat.le_refl _) HC3.out.size HO.out.size
        exact (z.out Q2.out (.inr (by have := lt_of J2.out; omega))).mono HB2.out.size Q2.out.size
      · exact Q2.out.below HBW.out HBW.out.size (by omega)
end Go.Proofs.Ytmfagmfclehdbaa
