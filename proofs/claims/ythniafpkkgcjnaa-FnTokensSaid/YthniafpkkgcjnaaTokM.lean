/-
  What three steps of a process that computes once leave. No statement of the seat is proved here.
-/
import Derived.Test.YthniafpkkgcjnaaStepL
namespace Go.Proofs.Ythniafpkkgcjnaa
open Go.RowKit

def tkP (op : Int) : Prg := ⟨0, 0, [⟨op, 2, 0, 1⟩, ⟨10, 2, 3, 0⟩, ⟨11, 0, 0, 0⟩]⟩
def tkA (u v : Int) : Act := ⟨0, [u, v, 0, 0]⟩
def tkX (op u v : Int) : Int := valI ⟨op, 2, 0, 1⟩ [u, v, 0, 0] 0
def tkB (op u v : Int) : Act := ⟨1, [u, v, tkX op u v, 0]⟩
def tkC (op u v : Int) : Act := ⟨if tkX op u v < 0 then 3 else 2, [u, v, tkX op u v, 0]⟩
theorem tkP_ok {op : Int} (h : 4 ≤ op ∧ op ≤ 7) : okP (tkP op) = true := by
  have : op = 4 ∨ op = 5 ∨ op = 6 ∨ op = 7 := by omega
  rcases this with rfl | rfl | rfl | rfl <;> decide
theorem isS4 {a b c : Int} (ha : isTok a = true) (hb : isTok b = true) (hc : isTok c = true) : isS [a, b, c, 0] = true := by
  unfold isS
  simp only [List.all_cons, List.all_nil, ha, hb, hc]
  rfl
theorem tkX_tok {op u v : Int} (h : 4 ≤ op ∧ op ≤ 7) (hu : isTok u = true) (hv : isTok v = true) : isTok (tkX op u v) = true := by
  have hr : isS [u, v, 0, 0] = true := isS4 hu hv (by decide)
  have := tkP_ok h
  exact valI_tok ((okP_parts this).2 _ (List.mem_cons_self)) hr (by decide)
theorem tkA_ok {op u v : Int} (hu : isTok u = true) (hv : isTok v = true) : okA (tkP op) (tkA u v) = true := by
  unfold okA
  rw [show (tkA u v).regs = [u, v, 0, 0] from rfl, isS4 hu hv (by decide)]
  simp [tkA, tkP]
theorem tkB_ok {op u v : Int} (h : 4 ≤ op ∧ op ≤ 7) (hu : isTok u = true) (hv : isTok v = true) : okA (tkP op) (tkB op u v) = true := by
  unfold okA
  rw [show (tkB op u v).regs = [u, v, tkX op u v, 0] from rfl, isS4 hu hv (tkX_tok h hu hv)]
  simp [tkB, tkP]
theorem tkC_ok {op u v : Int} (h : 4 ≤ op ∧ op ≤ 7) (hu : isTok u = true) (hv : isTok v = true) : okA (tkP op) (tkC op u v) = true := by
  unfold okA
  rw [show (tkC op u v).regs = [u, v, tkX op u v, 0] from rfl, isS4 hu hv (tkX_tok h hu hv)]
  have : (tkC op u v).pc = 3 ∨ (tkC op u v).pc = 2 := by unfold tkC; simp only []; split <;> simp
  rcases this with e | e <;> rw [e] <;> simp [tkP] <;> rfl
theorem tk_step1 {op u v : Int} (h : 4 ≤ op ∧ op ≤ 7) (hu : isTok u = true) (hv : isTok v = true) : stepB (tkP op) (tkA u v) 0 = true := by
  have h4 : op = 4 ∨ op = 5 ∨ op = 6 ∨ op = 7 := by omega
  unfold stepB
  rw [tkP_ok h, tkA_ok hu hv]
  rcases h4 with rfl | rfl | rfl | rfl <;> rfl
theorem tk_step2 {op u v : Int} (h : 4 ≤ op ∧ op ≤ 7) (hu : isTok u = true) (hv : isTok v = true) : stepB (tkP op) (tkB op u v) 0 = true := by
  unfold stepB
  rw [tkP_ok h, tkB_ok h hu hv]
  rfl
theorem tk_step3 {op u v : Int} : stepB (tkP op) (tkC op u v) 0 = false := by
  unfold stepB tkC
  split <;> simp [tkP, wantC, wantI]
theorem tk_b {op u v : Int} (h : 4 ≤ op ∧ op ≤ 7) (hu : isTok u = true) (hv : isTok v = true) : stepActorR0 (tkP op) (tkA u v) 0 = tkB op u v := by
  have h4 : op = 4 ∨ op = 5 ∨ op = 6 ∨ op = 7 := by omega
  rw [(stepActor_yes (tk_step1 h hu hv)).1]
  unfold tkB
  have e : insAt (tkP op).code (tkA u v).pc.toNat = ⟨op, 2, 0, 1⟩ := rfl
  rw [e]
  congr 1
  rcases h4 with rfl | rfl | rfl | rfl <;> rfl
theorem tk_c {op u v : Int} (h : 4 ≤ op ∧ op ≤ 7) (hu : isTok u = true) (hv : isTok v = true) : stepActorR0 (tkP op) (tkB op u v) 0 = tkC op u v := by
  rw [(stepActor_yes (tk_step2 h hu hv)).1]
  unfold tkC
  have e : insAt (tkP op).code (tkB op u v).pc.toNat = ⟨10, 2, 3, 0⟩ := rfl
  rw [e]
  congr 1
theorem tk_rest {u v : Int} : 0 ≤ tkX 7 u v ∧ (v ≠ 0 → (u - tkX 7 u v).tmod v = 0) := by
  have e : tkX 7 u v = restI u v := rfl
  rw [e]
  unfold restI
  split
  · exact ⟨Int.le_refl _, fun h => absurd (by assumption) h⟩
  · rename_i h0
    refine ⟨Int.emod_nonneg _ h0, fun _ => ?_⟩
    have hd : v ∣ (u - u.emod v) := by
      have := Int.mul_ediv_add_emod u v
      exact ⟨u / v, by have e2 : u.emod v = u % v := rfl; rw [e2]; omega⟩
    exact Int.tmod_eq_zero_of_dvd hd
theorem four_al (w : World) (A B C D : Obj) : ((((w.alloc A).alloc B).alloc C).alloc D).heap[w.heap.size]? = some A ∧ ((((w.alloc A).alloc B).alloc C).alloc D).heap[w.heap.size + 1]? = some B ∧
    ((((w.alloc A).alloc B).alloc C).alloc D).heap[w.heap.size + 2]? = some C ∧ ((((w.alloc A).alloc B).alloc C).alloc D).heap[w.heap.size + 3]? = some D ∧ Below w.heap.size w ((((w.alloc A).alloc B).alloc C).alloc D) := by
  refine ⟨?_, ?_, ?_, ?_, (((Below.refl _ _).al _).al _).al _ |>.al _⟩
  · rw [Below.heap_alloc _ _ _ (by simp; omega)]; exact hp31 w A B C
  · rw [Below.heap_alloc _ _ _ (by simp)]; exact hp32 w A B C
  · rw [Below.heap_alloc _ _ _ (by simp)]; exact hp3 w A B C
  · have := heap_alloc_new (((w.alloc A).alloc B).alloc C) D
    rwa [show (((w.alloc A).alloc B).alloc C).heap.size = w.heap.size + 3 by simp] at this
theorem tk_code {W : World} {g T : Nat} {op : Int} (h : W.heap[g]? = some (.cells #[.int .i64 op, .int .i64 2, .int .i64 0, .int .i64 1, .int .i64 10, .int .i64 2, .int .i64 3, .int .i64 0, .int .i64 11, .int .i64 0, .int .i64 0, .int .i64 0] T)) :
    SlI W (.slice (some ⟨g, 0, none⟩) 3 3) (tkP op).code := by
  refine ⟨some ⟨g, 0, none⟩, 3, rfl, Nat.le_refl _, by unfold maxLen; omega, (fun e => by cases e), .inr ⟨g, 0, rfl, lt_of h, fun i x hi => ?_⟩⟩
  have c : ∀ k, W.cell? ⟨g, k, none⟩ = _ := fun k => cell_of h k
  match i, hi with
  | 0, hi => simp [tkP] at hi; subst hi; simp only [c]; exact ⟨rfl, rfl, rfl, rfl⟩
  | 1, hi => simp [tkP] at hi; subst hi; simp only [c]; exact ⟨rfl, rfl, rfl, rfl⟩
  | 2, hi => simp [tkP] at hi; subst hi; simp only [c]; exact ⟨rfl, rfl, rfl, rfl⟩
  | i + 3, hi => simp [tkP] at hi
theorem tk_regs {W : World} {g T : Nat} {u v : Int} (h : W.heap[g]? = some (.cells #[.int .i64 u, .int .i64 v, .int .i64 0, .int .i64 0] T)) : Sl W (.slice (some ⟨g, 0, none⟩) 4 4) [u, v, 0, 0] := by
  refine ⟨some ⟨g, 0, none⟩, 4, rfl, Nat.le_refl _, by unfold maxLen; omega, (fun e => by cases e), .inr ⟨g, 0, rfl, lt_of h, fun i hi => ?_⟩⟩
  rw [cell_of h]
  match i, hi with
  | 0, _ => rfl
  | 1, _ => rfl
  | 2, _ => rfl
  | 3, _ => rfl
theorem tk_ops {W : World} {g T : Nat} (h : W.heap[g]? = some (.cells #[.int .i64 4, .int .i64 5, .int .i64 6, .int .i64 7] T)) {k : Nat} (hk : k < 4) : W.cell? ⟨g, k, none⟩ = some (.int .i64 (4 + (k : Int))) := by
  rw [cell_of h]
  match k, hk with
  | 0, _ => rfl
  | 1, _ => rfl
  | 2, _ => rfl
  | 3, _ => rfl
theorem four_shape {lo : Nat} {w : World} {v : Value} {a b c d : Int} (h : Own lo w v [a, b, c, d]) : ∃ g k, v = .slice (some ⟨g, 0, none⟩) 4 k ∧ lo ≤ g ∧ g < w.heap.size ∧ w.cell? ⟨g, 2, none⟩ = some (.int .i64 c) := by
  rcases h.2 with ⟨_, hn⟩ | ⟨g, cap, cur, rfl, hlo, hg, _⟩
  · simp at hn
  · have HO : w.ownsRow lo 3 1 (.slice (some ⟨g, 0, none⟩) 4 cap) 4 (vals [a, b, c, d]) := h
    exact ⟨g, cap, rfl, hlo, lt_of hg, (HO.cellAt 2 (by decide)).trans rfl⟩
end Go.Proofs.Ythniafpkkgcjnaa
