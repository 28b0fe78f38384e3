/-
  What the model's own cut of a text leaves. No statement of the seat is proved here.
-/
import Derived.Test.YthlpgpgfdfnofabDoorCut2
import Derived.Test.YthlpgpgfdfnofabDoorOwn
namespace Go.Proofs.YthlpgpgfdfnofabDoor
open Go.RowKit

def strV (l : List UInt8) : Value := .string ⟨l.toArray⟩
def SW (ws : List (List UInt8)) : List Value := ws.map strV
theorem SW_len (ws : List (List UInt8)) : (SW ws).length = ws.length := by simp [SW]
theorem SW_snoc (ws : List (List UInt8)) (w : List UInt8) : SW (ws ++ [w]) = SW ws ++ [strV w] := by simp [SW]
theorem infoStr : (Tryd.prog.info? 9).map (fun i => (i.zero, i.size, i.bytes)) = some (some (.string ⟨#[]⟩), 1, 16) := by kernel_rfl
theorem litS (w : World) : (w.alloc (.cells #[] 9)).ownsRow w.heap.size 9 1 (.slice (some ⟨w.heap.size, 0, none⟩) 0 0) 0 [] :=
  World.ownsRow_made w #[] 0 (Nat.le_refl _) (by unfold maxLen; omega) rfl
theorem oneS_src (w : World) (x : ByteArray) : ∀ j u, [Value.string x][j]? = some u → (w.alloc (.cells #[.string x] 9)).cell? ((⟨w.heap.size, 0, none⟩ : Addr).add j) = some u := by
  intro j u hj
  match j, hj with
  | 0, hj => simp at hj; subst hj; simp [Addr.add]
theorem oneS_one (x : ByteArray) : ∀ u ∈ [Value.string x], u.oneCell' = true := by
  intro u hu; simp at hu; subst hu; rfl
theorem appS_rel {w wr w1 : World} {B lo n : Nat} {v v' : Value} {L : List Value} {x : Value} {o : Obj} (hb : Below B w wr) (hB : B ≤ wr.heap.size) (hlo : B ≤ lo) (ho : wr.ownsRow lo 9 1 v n L)
    (hown : w1.ownsRow lo 9 1 v' (n + 1) (L ++ [x])) (hg : (wr.alloc o).grownBy w1 v.ownBlock) : w1.ownsRow lo 9 1 v' (n + 1) (L ++ [x]) ∧ Below B w w1 :=
  ⟨hown, (hb.alloc hB o).grown hg (by simp; omega) (fun k e => Nat.le_trans hlo (World.ownsRow.lt ho k e).1)⟩

set_option maxRecDepth 100000 in
set_option maxHeartbeats 1600000 in
theorem split_any (s : ByteArray) (w : World) (hs : s.size ≤ 1048577) :
    Calls Tryd.prog 18 #[.string s, .int .u8 44] w fun e w' => ∃ r, e = .returned r ∧ w'.ownsRow w.heap.size 9 1 r (words s.data.toList).length (SW (words s.data.toList)) ∧ Below w.heap.size w w' := by
  obtain ⟨i0, hi, hz0, hz1, hz2⟩ := info_parts infoStr
  have hc0 : cut (s.data.toList.take 0) = ([], []) := by simp [cut]
  have ho0 : (w.alloc (.cells #[] 9)).ownsRow w.heap.size 9 1 (.slice (some ⟨w.heap.size, 0, none⟩) 0 0) (cut (s.data.toList.take 0)).1.length (SW (cut (s.data.toList.take 0)).1) := by rw [hc0]; exact litS w
  have hb0 := (Below.refl w.heap.size w).alloc (Nat.le_refl _) (.cells #[] 9)
  have hf0 : fr s.data.toList 0 = 0 := by simp [fr]
  clear hc0
  go_enter Tryd.func18, Tryd.ntmps18
  go_wp2_with fail
  go_loopw [5, 6, 7] (fun o f i wr => ∃ k : Nat, k ≤ s.size ∧ i = .int .i64 k ∧ f = .int .i64 (fr s.data.toList k : Nat) ∧ wr.ownsRow w.heap.size 9 1 o (cut (s.data.toList.take k)).1.length (SW (cut (s.data.toList.take k)).1) ∧ Below w.heap.size w wr) (fun _ _ i _ => s.size - (intOf i).toNat)
  case atStart => exact ⟨0, Nat.zero_le _, rfl, by rw [hf0]; rfl, ho0, hb0⟩
  case round =>
    clear ho0 hb0 hf0
    obtain ⟨k, hk, rfl, rfl, HO, hb⟩ := hrel
    have hfk := fr_le s.data.toList k
    have hEX := ext_word s k hk
    have hbd := cut_bound (s.data.toList.take k)
    have htl : (s.data.toList.take k).length = k := by rw [List.length_take, s_len]; omega
    rw [htl] at hbd
    clear htl
    have hsz := hb.size
    by_cases hlt : k < s.size
    · have ES := s_take s k hlt
      by_cases hc : s[k].toNat = 44
      · have hc' : s[k] = 44 := UInt8.toNat_inj.1 (by rw [hc]; rfl)
        have EF := Lib.hid (fr_comma ES hc')
        have EC := cut_comma (s.data.toList.take k)
        rw [hc'] at ES
        rw [← ES] at EC
        have EC := Lib.hid EC
        obtain ⟨f, hf⟩ : ∃ f, fr s.data.toList k = f := ⟨_, rfl⟩
        rw [hf] at hfk hEX ⊢
        obtain ⟨C, hC⟩ : ∃ C, cut (s.data.toList.take k) = C := ⟨_, rfl⟩
        unfold words at EC
        rw [hC] at HO EC hEX hbd
        obtain ⟨D, U⟩ := C
        simp only at HO EC hEX hbd
        have EX := Lib.hid hEX
        have HO' := Lib.hid HO
        have HB := Lib.hid hb
        have hci : (s[k].toNat : Int) = 44 := by omega
        clear hf hC ES hc hc' hEX HO hb
        go_wp2_with (at_builtin; refine wpList_append_own_at _ rfl _ _ 32 rfl w.heap.size 9 i0 (.string ⟨#[]⟩) 1 16 Tryd.underlying32 hi hz0 hz1 hz2 rfl (by decide) _ _ _ rfl (World.ownsRow.alloc HO'.out _) ⟨wr.heap.size, 0, none⟩ 1 1 [.string (s.extract f k)] rfl rfl (oneS_src _ _) (oneS_one _) ?c3 ?c4 ?c5 ?_)
        case c3 => unfold maxLen; omega
        case c4 => first | omega | (rw [SW_len]; omega)
        case c5 => first | omega | (simp; omega)
        intro v' w1 hown hgrow _ _
        have R := Lib.hid (appS_rel HB.out hsz (Nat.le_refl _) HO'.out hown hgrow)
        clear hown hgrow HO' HB
        go_wp2_with fail
        go_roundw
        case rel => exact ⟨k + 1, by omega, by go_num, by rw [EF.out]; go_num, by rw [EC.out]; have := R.out.1; rw [EX.out] at this; simpa [SW, strV] using this, R.out.2⟩
        case measure => simp [intOf]; omega
      · have hc' : s[k] ≠ 44 := fun h => hc (by rw [h]; rfl)
        have EF := Lib.hid (fr_other ES hc')
        have EC := cut_other (s.data.toList.take k) hc'
        rw [← ES] at EC
        have EC := Lib.hid EC
        have hci : ¬ (s[k].toNat : Int) = 44 := by omega
        have HO' := Lib.hid HO
        have HB := Lib.hid hb
        clear ES hc hc' hEX HO hb
        go_wp2_with fail
        go_roundw
        case rel => exact ⟨k + 1, by omega, by go_num, by rw [EF.out], by rw [EC.out]; exact HO'.out, HB.out⟩
        case measure => simp [intOf]; omega
    · obtain rfl : k = s.size := by omega
      have e : s.data.toList.take s.size = s.data.toList := List.take_of_length_le (by rw [s_len]; exact Nat.le_refl _)
      rw [e] at HO hEX hbd
      have EW : words s.data.toList = (cut s.data.toList).1 ++ [(cut s.data.toList).2] := rfl
      obtain ⟨f, hf⟩ : ∃ f, fr s.data.toList s.size = f := ⟨_, rfl⟩
      rw [hf] at hfk hEX ⊢
      obtain ⟨C, hC⟩ : ∃ C, cut s.data.toList = C := ⟨_, rfl⟩
      rw [hC] at HO hEX hbd EW
      obtain ⟨D, U⟩ := C
      simp only at HO hEX hbd EW
      have EW := Lib.hid EW
      have EX := Lib.hid hEX
      have HO' := Lib.hid HO
      have HB := Lib.hid hb
      clear hf hC hEX HO hb e
      go_wp2_with (at_builtin; refine wpList_append_own_at _ rfl _ _ 32 rfl w.heap.size 9 i0 (.string ⟨#[]⟩) 1 16 Tryd.underlying32 hi hz0 hz1 hz2 rfl (by decide) _ _ _ rfl (World.ownsRow.alloc HO'.out _) ⟨wr.heap.size, 0, none⟩ 1 1 [.string (s.extract f s.size)] rfl rfl (oneS_src _ _) (oneS_one _) ?c3 ?c4 ?c5 ?_)
      case c3 => unfold maxLen; omega
      case c4 => first | omega | (rw [SW_len]; omega)
      case c5 => first | omega | (simp; omega)
      intro v' w1 hown hgrow _ _
      have R := Lib.hid (appS_rel HB.out hsz (Nat.le_refl _) HO'.out hown hgrow)
      clear hown hgrow HO' HB
      go_wp2_with fail
      go_ret
      exact ⟨_, rfl, by rw [EW.out]; have := R.out.1; rw [EX.out] at this; simpa [SW, strV] using this, R.out.2⟩

end Go.Proofs.YthlpgpgfdfnofabDoor
