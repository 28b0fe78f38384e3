/-
  What makes a state valid, as data; the ends of streams; what a link may carry; programs and actors side by side. No statement of the seat is proved here.
-/
import Derived.Test.YtjphamgkigekkaaStC
import Derived.Test.YtjphamgkigekkaaPrefix
import Derived.Test.YtjphamgkigekkaaSNet3
import Derived.Test.YtjphamgkigekkaaLinkM
namespace Go.Proofs.Ytjphamgkigekkaa
open Go.RowKit

def endB (q h : List Int) : Bool := decide (q.length ≤ h.length ∧ q = h.drop (h.length - q.length))
def trafB (l : Lnk) (q h : List Int) : Bool := prefB l.tok h && (endB q h && (if l.src = outE then decide (h.length = l.tok.length) else (!(decide (l.tgt = outE)) || decide (q.length = h.length))))
def prg0 : Prg := ⟨0, 0, []⟩
def act0 : Act := ⟨0, []⟩
def lnk0 : Lnk := ⟨0, 0, 0, 0, []⟩
def upTo (p : Nat → Bool) (k : Nat) : Bool := (List.range k).all p
theorem upTo_step {p : Nat → Bool} {k : Nat} (ha : upTo p k = true) (hp : p k = true) : upTo p (k + 1) = true := by
  unfold upTo at *
  rw [List.all_eq_true] at *
  intro i hi
  rcases Nat.lt_or_ge i k with q | q
  · exact ha i (List.mem_range.2 q)
  · obtain rfl : i = k := by have := List.mem_range.1 hi; omega
    exact hp
theorem upTo_no {p : Nat → Bool} {k m : Nat} (hk : k < m) (hp : p k = false) : upTo p m = false := by
  unfold upTo
  rw [List.all_eq_false]
  exact ⟨k, List.mem_range.2 hk, by rw [hp]; decide⟩
theorem upTo_at {p : Nat → Bool} {k m : Nat} (h : upTo p m = true) (hk : k < m) : p k = true := by
  unfold upTo at h
  exact List.all_eq_true.1 h k (List.mem_range.2 hk)
theorem getD_at {α : Type} {l : List α} {k : Nat} {x d : α} (h : l[k]? = some x) : l.getD k d = x := by rw [List.getD_eq_getElem?_getD, h]; rfl
def actP (ps : List Prg) (acs : List Act) (i : Nat) : Bool := okA (ps.getD i prg0) (acs.getD i act0)
def traP (n : Net) (s : Stt) (i : Nat) : Bool := trafB (n.links.getD i lnk0) (s.queues.getD i []) (s.sent.getD i [])
def isStateR0 (n : Net) (s : Stt) : Bool :=
  okN n && (decide (0 ≤ s.steps ∧ s.steps ≤ 20000) && ((decide (n.progs.length = s.acts.length) && upTo (actP n.progs s.acts) n.progs.length) && (areS s.queues n.links.length && (areS s.sent n.links.length && upTo (traP n s) n.links.length))))

theorem endB_long {xs ys : List Int} (h : ¬ xs.length ≤ ys.length) : endB xs ys = false := by unfold endB; rw [decide_eq_false]; exact fun e => h e.1
theorem endB_short {xs ys : List Int} (h : xs.length ≤ ys.length) : endB xs ys = decide (xs = ys.drop (ys.length - xs.length)) := by
  unfold endB
  by_cases e : xs = ys.drop (ys.length - xs.length)
  · rw [decide_eq_true e, decide_eq_true ⟨h, e⟩]
  · rw [decide_eq_false e, decide_eq_false (fun q => e q.2)]

set_option maxHeartbeats 1600000 in
theorem iends_any (v u : Value) (xs ys : List Int) (w : World) (h : Sl w v xs) (k : Sl w u ys) :
    Calls Try.prog 141 #[v, u] w fun e w' => e = .returned (.bool (endB xs ys)) ∧ Below w.heap.size w w' := by
  obtain ⟨a, cap, rfl, hr⟩ := h
  obtain ⟨a2, cap2, rfl, hr2⟩ := k
  have H := Lib.hid (show Sl w (.slice a xs.length cap) xs from ⟨a, cap, rfl, hr⟩)
  have K := Lib.hid (show Sl w (.slice a2 ys.length cap2) ys from ⟨a2, cap2, rfl, hr2⟩)
  have hb1 : xs.length ≤ 9223372036854775807 := by have := hr.1; have := hr.2.1; unfold maxLen at this; omega
  have hb2 : ys.length ≤ cap2 ∧ cap2 ≤ 9223372036854775807 := by have := hr2.1; have := hr2.2.1; unfold maxLen at this; omega
  have hn2 := hr2.2.2.1
  clear hr hr2
  by_cases hle : xs.length ≤ ys.length
  case neg =>
    rw [endB_long hle]
    have hd : decide ((xs.length : Int) ≤ (ys.length : Int)) = false := decide_eq_false (by omega)
    go_enter Try.func141, Try.ntmps141
    go_wp2_with fail
    go_ret
    exact ⟨rfl, Below.refl _ _⟩
  rw [endB_short hle]
  have hd : decide ((xs.length : Int) ≤ (ys.length : Int)) = true := decide_eq_true (by omega)
  obtain ⟨n, hn⟩ : ∃ n, n = ys.length - xs.length := ⟨_, rfl⟩
  have hw : wrap64 ((ys.length : Int) - (xs.length : Int)) = (n : Int) := by rw [IntWalk.wrap64_in _ (by omega)]; omega
  have hsub : (ys.length : Int) - (xs.length : Int) = (n : Int) := by omega
  rw [← hn]
  by_cases hc : n < cap2
  · obtain ⟨ad, rfl, HD⟩ := K.out.drop hc (by omega)
    have hlen : ys.length - n = xs.length := by omega
    rw [hlen] at HD
    have C := Lib.hid (equal_any _ _ xs (ys.drop n) w H.out HD)
    obtain ⟨r3, h3⟩ : ∃ r, r = decide (xs = ys.drop n) := ⟨_, rfl⟩
    rw [← h3] at C ⊢
    have hne : ¬ cap2 = n := by omega
    have hny : n ≤ ys.length := by omega
    have hnc : n ≤ cap2 := by omega
    obtain ⟨yl, hyl⟩ : ∃ z, z = ys.length := ⟨_, rfl⟩
    obtain ⟨xl, hxl⟩ : ∃ z, z = xs.length := ⟨_, rfl⟩
    rw [← hyl] at hd hw hsub hlen hny ⊢
    rw [← hyl] at hb2
    rw [← hxl] at hd hw hsub hlen C ⊢
    rw [← hxl] at hb1
    clear h3 hn hle HD H K hyl hxl
    go_enter Try.func141, Try.ntmps141
    go_wp2_with (go_at_call 130; refine C.out.mono ?_; rintro e w' ⟨rfl, m, rfl⟩)
    go_ret
    exact ⟨by simp, below_drewN w m⟩
  · obtain rfl : cap2 = n := by omega
    have hyl : ys.length = cap2 := by omega
    have hxl : xs.length = 0 := by omega
    have HE := sl_empty w a2 0 (by unfold maxLen; omega) rfl
    have hdr : ys.drop cap2 = [] := by rw [← hyl]; exact List.drop_length
    have hxs : xs = [] := List.eq_nil_of_length_eq_zero hxl
    rw [hdr]
    subst hxs
    rw [hyl] at hd hw hsub hb2 ⊢
    have C := Lib.hid (equal_any _ _ [] [] w H.out HE)
    clear hn hle H K hdr hxl HE hyl
    go_enter Try.func141, Try.ntmps141
    go_wp2_with (go_at_call 130; refine C.out.mono ?_; rintro e w' ⟨rfl, m, rfl⟩)
    go_ret
    exact ⟨by simp, below_drewN w m⟩

theorem begB_endB {xs ys : List Int} {n : Nat} (h : xs.length ≤ ys.length) (hn : n = ys.length - xs.length) : begB xs (ys.drop n) = decide (xs = ys.drop n) := by
  unfold begB
  have hl : (ys.drop n).length = xs.length := by rw [List.length_drop]; omega
  by_cases e : xs = ys.drop n
  · rw [decide_eq_true e, decide_eq_true]
    exact ⟨by omega, by rw [List.take_of_length_le (by omega)]; exact e⟩
  · rw [decide_eq_false e, decide_eq_false]
    rintro ⟨_, q⟩
    rw [List.take_of_length_le (by omega)] at q
    exact e q
set_option maxHeartbeats 1600000 in
theorem sends5_any (v u : Value) (xs ys : List Int) (w : World) (h : Sl w v xs) (k : Sl w u ys) :
    Calls Try.prog 91 #[v, u] w fun e w' => e = .returned (.bool (endB xs ys)) ∧ w = w' := by
  obtain ⟨a, cap, rfl, hr⟩ := h
  obtain ⟨a2, cap2, rfl, hr2⟩ := k
  have H := Lib.hid (show Sl w (.slice a xs.length cap) xs from ⟨a, cap, rfl, hr⟩)
  have K := Lib.hid (show Sl w (.slice a2 ys.length cap2) ys from ⟨a2, cap2, rfl, hr2⟩)
  have hb1 : xs.length ≤ 9223372036854775807 := by have := hr.1; have := hr.2.1; unfold maxLen at this; omega
  have hb2 : ys.length ≤ cap2 ∧ cap2 ≤ 9223372036854775807 := by have := hr2.1; have := hr2.2.1; unfold maxLen at this; omega
  clear hr hr2
  by_cases hle : xs.length ≤ ys.length
  case neg =>
    rw [endB_long hle]
    have hd : decide ((xs.length : Int) ≤ (ys.length : Int)) = false := decide_eq_false (by omega)
    go_enter Try.func91, Try.ntmps91
    go_wp2_with fail
    go_ret
    exact ⟨rfl, rfl⟩
  rw [endB_short hle]
  have hd : decide ((xs.length : Int) ≤ (ys.length : Int)) = true := decide_eq_true (by omega)
  obtain ⟨n, hn⟩ : ∃ n, n = ys.length - xs.length := ⟨_, rfl⟩
  have hw : wrap64 ((ys.length : Int) - (xs.length : Int)) = (n : Int) := by rw [IntWalk.wrap64_in _ (by omega)]; omega
  have hsub : (ys.length : Int) - (xs.length : Int) = (n : Int) := by omega
  rw [← hn]
  by_cases hc : n < cap2
  · obtain ⟨ad, rfl, HD⟩ := K.out.drop hc (by omega)
    have hlen : ys.length - n = xs.length := by omega
    rw [hlen] at HD
    have C := Lib.hid (begins_any _ _ xs (ys.drop n) w H.out HD)
    rw [begB_endB hle hn] at C
    obtain ⟨r3, h3⟩ : ∃ r, r = decide (xs = ys.drop n) := ⟨_, rfl⟩
    rw [← h3] at C ⊢
    have hne : ¬ cap2 = n := by omega
    have hny : n ≤ ys.length := by omega
    have hnc : n ≤ cap2 := by omega
    obtain ⟨yl, hyl⟩ : ∃ z, z = ys.length := ⟨_, rfl⟩
    obtain ⟨xl, hxl⟩ : ∃ z, z = xs.length := ⟨_, rfl⟩
    rw [← hyl] at hd hw hsub hlen hny ⊢
    rw [← hyl] at hb2
    rw [← hxl] at hd hw hsub hlen C ⊢
    rw [← hxl] at hb1
    clear h3 hn hle HD H K hyl hxl
    go_enter Try.func91, Try.ntmps91
    go_wp2_with (go_at_call 90; refine C.out.mono ?_; rintro e w' ⟨rfl, rfl⟩)
    go_ret
    exact ⟨by simp, rfl⟩
  · obtain rfl : cap2 = n := by omega
    have hyl : ys.length = cap2 := by omega
    have hxl : xs.length = 0 := by omega
    have HE := sl_empty w a2 0 (by unfold maxLen; omega) rfl
    have hdr : ys.drop cap2 = [] := by rw [← hyl]; exact List.drop_length
    have hxs : xs = [] := List.eq_nil_of_length_eq_zero hxl
    rw [hdr]
    subst hxs
    rw [hyl] at hd hw hsub hb2 ⊢
    have C := Lib.hid (begins_any _ _ [] [] w H.out HE)
    clear hn hle H K hdr hxl HE hyl
    go_enter Try.func91, Try.ntmps91
    go_wp2_with (go_at_call 90; refine C.out.mono ?_; rintro e w' ⟨rfl, rfl⟩)
    go_ret
    exact ⟨by simp [begB], rfl⟩

set_option maxRecDepth 100000 in
set_option maxHeartbeats 4000000 in
theorem itraf_any (f o t i : Int) (tok q h : List Int) (c u x : Value) (w : World) (hc : Sl w c tok) (hq : Sl w u q) (hh : Sl w x h) :
    Calls Try.prog 96 #[.agg #[.int .i64 f, .int .i64 o, .int .i64 t, .int .i64 i, c], u, x] w fun e w' => e = .returned (.bool (trafB ⟨f, o, t, i, tok⟩ q h)) ∧ Below w.heap.size w w' := by
  have CP := Lib.hid (fun (W : World) (hw : Below w.heap.size w W) => iprefixB c tok x h W (hc.below hw) (hh.below hw))
  have CE := Lib.hid (fun (W : World) (hw : Below w.heap.size w W) => iends_any u x q h W (hq.below hw) (hh.below hw))
  have CI := Lib.hid (fun (W : World) => iinput_any f o t i c W)
  have CO := Lib.hid (fun (W : World) => ioutput_any f o t i c W)
  obtain ⟨R, hR⟩ : ∃ R, R = trafB ⟨f, o, t, i, tok⟩ q h := ⟨_, rfl⟩
  rw [← hR]
  replace hR : R = (prefB tok h && (endB q h && (if (f, o) = outE then decide (h.length = tok.length) else (!(decide ((t, i) = outE)) || decide (q.length = h.length))))) := hR
  obtain ⟨ca, cc, rfl⟩ := hc.shape
  obtain ⟨ua, uc, rfl⟩ := hq.shape
  obtain ⟨xa, xc, rfl⟩ := hh.shape
  obtain ⟨tl, htl⟩ : ∃ z, z = tok.length := ⟨_, rfl⟩
  obtain ⟨ql, hql⟩ : ∃ z, z = q.length := ⟨_, rfl⟩
  obtain ⟨hl, hhl⟩ : ∃ z, z = h.length := ⟨_, rfl⟩
  rw [← htl] at hR CP CI CO ⊢
  rw [← hql] at hR CE ⊢
  rw [← hhl] at hR CP CE ⊢
  clear hc hq hh htl hql hhl
  have hb := Lib.hid ((Below.refl w.heap.size w).al (.cells #[.int .i64 f, .int .i64 o, .int .i64 t, .int .i64 i, .slice ca tl cc] 82))
  have hH := Lib.hid (hp1 w (.cells #[.int .i64 f, .int .i64 o, .int .i64 t, .int .i64 i, .slice ca tl cc] 82))
  cases h1 : prefB tok h with
  | false =>
    rw [h1] at hR CP
    obtain rfl : R = false := hR
    clear h1
    go_enter Try.func96, Try.ntmps96
    go_wp2_with (go_at_call 140; with_reducible refine (CP.out _ hb.out).mono ?_; rintro e w2 ⟨rfl, hb1⟩; have HB1 := Lib.hid (hb.out.trans (hb1.mono hb.out.size)); clear hb1)
    go_ret
    exact ⟨rfl, HB1.out⟩
  | true =>
    rw [h1, Bool.true_and] at hR
    rw [h1] at CP
    clear h1
    cases h2 : endB q h with
    | false =>
      rw [h2] at hR CE
      obtain rfl : R = false := hR
      clear h2
      go_enter Try.func96, Try.ntmps96
      go_wp2_with (first | (go_at_call 141; with_reducible refine (CE.out _ HB1.out).mono ?_; rintro e w3 ⟨rfl, hb3⟩; have HB3 := Lib.hid (HB1.out.trans (hb3.mono HB1.out.size)); clear hb3) | (go_at_call 140; with_reducible refine (CP.out _ hb.out).mono ?_; rintro e w2 ⟨rfl, hb1⟩; have HB1 := Lib.hid (hb.out.trans (hb1.mono hb.out.size)); clear hb1))
      go_ret
      exact ⟨rfl, HB3.out⟩
    | true =>
      rw [h2, Bool.true_and] at hR
      rw [h2] at CE
      clear h2
      by_cases h3 : (f, o) = outE
      · rw [if_pos h3] at hR
        rw [decide_eq_true h3] at CI
        have HR := Lib.hid hR
        clear h3 hR
        go_enter Try.func96, Try.ntmps96
        go_wp2_with (first | (go_at_call 115; with_reducible refine (CI.out _).mono ?_; rintro e w4 ⟨rfl, hb4⟩; have HB4 := Lib.hid (HB3.out.trans (hb4.mono HB3.out.size)); have G4 := Lib.hid (blk_in G3.out hb4); clear k0 k1 k2 k3 k4 gl; obtain ⟨k0, k1, k2, k3, k4⟩ := cells5 G4.out; have gl := lt_of G4.out; clear hb4) | (go_at_call 141; with_reducible refine (CE.out _ HB1.out).mono ?_; rintro e w3 ⟨rfl, hb3⟩; have HB3 := Lib.hid (HB1.out.trans (hb3.mono HB1.out.size)); have G3 := Lib.hid (blk_in G1.out hb3); obtain ⟨k0, k1, k2, k3, k4⟩ := cells5 G3.out; have gl := lt_of G3.out; clear hb3) | (go_at_call 140; with_reducible refine (CP.out _ hb.out).mono ?_; rintro e w2 ⟨rfl, hb1⟩; have HB1 := Lib.hid (hb.out.trans (hb1.mono hb.out.size)); have G1 := Lib.hid (blk_in hH.out hb1); clear hb1))
        go_ret
        refine ⟨ret_bool (HR.out.trans ?_), HB4.out⟩
        first | exact (beqN2 _ _).symm | (rw [beqN2]; rfl)
      · rw [if_neg h3] at hR
        rw [decide_eq_false h3] at CI
        by_cases h4 : (t, i) = outE
        · rw [decide_eq_true h4] at hR CO
          have HR := Lib.hid hR
          clear h3 h4 hR
          go_enter Try.func96, Try.ntmps96
          go_wp2_with (first | (go_at_call 124; with_reducible refine (CO.out _).mono ?_; rintro e w5 ⟨rfl, hb5⟩; have HB5 := Lib.hid (HB4.out.trans (hb5.mono HB4.out.size)); clear hb5) | (go_at_call 115; with_reducible refine (CI.out _).mono ?_; rintro e w4 ⟨rfl, hb4⟩; have HB4 := Lib.hid (HB3.out.trans (hb4.mono HB3.out.size)); have G4 := Lib.hid (blk_in G3.out hb4); clear k0 k1 k2 k3 k4 gl; obtain ⟨k0, k1, k2, k3, k4⟩ := cells5 G4.out; have gl := lt_of G4.out; clear hb4) | (go_at_call 141; with_reducible refine (CE.out _ HB1.out).mono ?_; rintro e w3 ⟨rfl, hb3⟩; have HB3 := Lib.hid (HB1.out.trans (hb3.mono HB1.out.size)); have G3 := Lib.hid (blk_in G1.out hb3); obtain ⟨k0, k1, k2, k3, k4⟩ := cells5 G3.out; have gl := lt_of G3.out; clear hb3) | (go_at_call 140; with_reducible refine (CP.out _ hb.out).mono ?_; rintro e w2 ⟨rfl, hb1⟩; have HB1 := Lib.hid (hb.out.trans (hb1.mono hb.out.size)); have G1 := Lib.hid (blk_in hH.out hb1); clear hb1))
          go_ret
          refine ⟨ret_bool (HR.out.trans ?_), HB5.out⟩
          first | exact (beqN2 _ _).symm | (rw [beqN2]; rfl)
        · rw [decide_eq_false h4] at hR CO
          have HR := Lib.hid hR
          clear h3 h4 hR
          go_enter Try.func96, Try.ntmps96
          go_wp2_with (first | (go_at_call 124; with_reducible refine (CO.out _).mono ?_; rintro e w5 ⟨rfl, hb5⟩; have HB5 := Lib.hid (HB4.out.trans (hb5.mono HB4.out.size)); clear hb5) | (go_at_call 115; with_reducible refine (CI.out _).mono ?_; rintro e w4 ⟨rfl, hb4⟩; have HB4 := Lib.hid (HB3.out.trans (hb4.mono HB3.out.size)); have G4 := Lib.hid (blk_in G3.out hb4); clear k0 k1 k2 k3 k4 gl; obtain ⟨k0, k1, k2, k3, k4⟩ := cells5 G4.out; have gl := lt_of G4.out; clear hb4) | (go_at_call 141; with_reducible refine (CE.out _ HB1.out).mono ?_; rintro e w3 ⟨rfl, hb3⟩; have HB3 := Lib.hid (HB1.out.trans (hb3.mono HB1.out.size)); have G3 := Lib.hid (blk_in G1.out hb3); obtain ⟨k0, k1, k2, k3, k4⟩ := cells5 G3.out; have gl := lt_of G3.out; clear hb3) | (go_at_call 140; with_reducible refine (CP.out _ hb.out).mono ?_; rintro e w2 ⟨rfl, hb1⟩; have HB1 := Lib.hid (hb.out.trans (hb1.mono hb.out.size)); have G1 := Lib.hid (blk_in hH.out hb1); clear hb1))
          go_ret
          exact ⟨ret_bool HR.out, HB5.out⟩

set_option maxRecDepth 100000 in
set_option maxHeartbeats 4000000 in
theorem ieqA_any (v u : Value) (ps : List Prg) (acs : List Act) (w : World) (hg : SlP w v ps) (hh : SlA w u acs) :
    Calls Try.prog 93 #[v, u, .func (.func 94) #[] #[]] w fun e w' => e = .returned (.bool (decide (ps.length = acs.length) && upTo (actP ps acs) ps.length)) ∧ Below w.heap.size w w' := by
  obtain ⟨R, hR⟩ : ∃ R, R = (decide (ps.length = acs.length) && upTo (actP ps acs) ps.length) := ⟨_, rfl⟩
  rw [← hR]
  have HR := Lib.hid hR
  clear hR
  have hm' := hg.len
  have hm2' := hh.len
  have HG := Lib.hid hg
  have HH := Lib.hid hh
  obtain ⟨a, cap, rfl⟩ := hg.shape
  obtain ⟨b, cap2, rfl⟩ := hh.shape
  obtain ⟨m, hmm⟩ : ∃ m, m = ps.length := ⟨_, rfl⟩
  obtain ⟨m2, hmm2⟩ : ∃ m, m = acs.length := ⟨_, rfl⟩
  rw [← hmm] at hm' HG ⊢
  rw [← hmm2] at hm2' HH ⊢
  have HM := Lib.hid hmm
  have HM2 := Lib.hid hmm2
  clear hmm hmm2 hg hh
  by_cases he : m = m2
  · have HE := Lib.hid he
    subst he
    go_enter Try.func93, Try.ntmps93
    go_wp2_with fail
    go_loopw [17] (fun i wr => ∃ k : Nat, k ≤ m ∧ i = .int .i64 k ∧ Hid (upTo (actP ps acs) k = true) ∧ Hid (Below w.heap.size w wr)) (fun i _ => m - (intOf i).toNat)
    case atStart => exact ⟨0, Nat.zero_le _, rfl, Lib.hid (by simp [upTo]), Lib.hid (Below.refl _ _)⟩
    case round =>
      obtain ⟨k, hk, rfl, HA, HB⟩ := hrel
      by_cases hlt : k < m
      · obtain ⟨x, hx⟩ : ∃ x, ps[k]? = some x := ⟨_, List.getElem?_eq_getElem (by rw [← HM.out]; exact hlt)⟩
        obtain ⟨y, hy⟩ : ∃ y, acs[k]? = some y := ⟨_, List.getElem?_eq_getElem (by rw [← HM2.out]; exact hlt)⟩
        obtain ⟨gb, off, c, rfl, hbk, c0, c1, c2, hcs⟩ := (HG.out.below HB.out).atb hx
        obtain ⟨ha, off2, d, rfl, hbk2, d0, d1, hds⟩ := (HH.out.below HB.out).atb hy
        have HP := Lib.hid (show actP ps acs k = okA x y by unfold actP; rw [getD_at hx, getD_at hy])
        clear hx hy
        obtain ⟨pi, po, pc⟩ := x
        obtain ⟨ai, ar⟩ := y
        simp only [] at c0 c1 c2 hcs d0 d1 hds
        have C := Lib.hid (fun (W : World) (hw : Below wr.heap.size wr W) => iisact_any (.agg #[.int .i64 pi, .int .i64 po, c]) (.agg #[.int .i64 ai, d]) ⟨pi, po, pc⟩ ⟨ai, ar⟩ W ⟨c, rfl, hcs.below hw⟩ ⟨d, rfl, hds.below hw⟩)
        obtain ⟨ua, uc, rfl⟩ := hcs.shape
        obtain ⟨va, vc, rfl⟩ := hds.shape
        obtain ⟨ul, hul⟩ : ∃ z, z = pc.length := ⟨_, rfl⟩
        obtain ⟨vl, hvl⟩ : ∃ z, z = ar.length := ⟨_, rfl⟩
        rw [← hul] at c2 C
        rw [← hvl] at d1 C
        clear hcs hds hul hvl
        have hb2 := Lib.hid (((Below.refl wr.heap.size wr).al (.cells #[.int .i64 pi, .int .i64 po, .slice ua ul uc] 86)).al (.cells #[.int .i64 ai, .slice va vl vc] 98))
        cases ht : okA ⟨pi, po, pc⟩ ⟨ai, ar⟩ with
        | true =>
          rw [ht] at C HP
          go_wp2_with (go_at_call 94; with_reducible refine (C.out _ hb2.out).mono ?_; rintro e w2 ⟨rfl, hb1⟩; have HB1 := Lib.hid (HB.out.trans ((hb2.out.trans (hb1.mono hb2.out.size)).mono HB.out.size)); clear hb1)
          go_roundw
          case rel => exact ⟨k + 1, by omega, by go_num, Lib.hid (upTo_step HA.out HP.out), HB1⟩
          case measure => simp [intOf]; omega
        | false =>
          rw [ht] at C HP
          go_wp2_with (go_at_call 94; with_reducible refine (C.out _ hb2.out).mono ?_; rintro e w2 ⟨rfl, hb1⟩; have HB1 := Lib.hid (HB.out.trans ((hb2.out.trans (hb1.mono hb2.out.size)).mono HB.out.size)); clear hb1)
          go_ret
          exact ⟨ret_bool (HR.out.trans (by rw [upTo_no (by rw [← HM.out]; exact hlt) HP.out]; simp)), HB1.out⟩
      · have HA1 := Lib.hid (show upTo (actP ps acs) m = true by have := HA.out; rwa [show k = m by omega] at this)
        go_wp2_with fail
        go_ret
        exact ⟨ret_bool (HR.out.trans (by rw [← HM.out, HA1.out, ← HM2.out]; simp)), HB.out⟩
  · have d : ((m : Int) == (m2 : Int)) = false := by simpa using fun e : (m : Int) = m2 => he (by omega)
    have HE := Lib.hid he
    go_enter Try.func93, Try.ntmps93
    go_wp2_with fail
    go_ret
    exact ⟨ret_bool (HR.out.trans (by rw [decide_eq_false (by rw [← HM.out, ← HM2.out]; exact HE.out)]; rfl)), Below.refl _ _⟩
end Go.Proofs.Ytjphamgkigekkaa
