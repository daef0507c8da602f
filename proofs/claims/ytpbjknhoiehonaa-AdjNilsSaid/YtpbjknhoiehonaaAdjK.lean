import Derived.Test.YtpbjknhoiehonaaAdjJ
import Derived.Test.YtpbjknhoiehonaaAdjC
import Derived.Laws.IdiomCopy
set_option linter.unusedVariables false
set_option linter.unusedSimpArgs false
namespace Go.Proofs.Ytpbjknhoiehonaa
open Go.RowKit
/-! WHERE ROWS BEGIN THAT ARE CUT OUT OF ONE. -/
def pre (d : Nat → Nat) : Nat → Nat
  | 0 => 0
  | u + 1 => pre d u + d u
/-- Where a row begins; one without room at its array's beginning. -/
def offC (d : Nat → Nat) (u : Nat) : Nat := if d u = 0 then 0 else pre d u
theorem offC_pos {d : Nat → Nat} {u : Nat} (h : 0 < d u) : offC d u = pre d u := if_neg (by omega)
theorem pre_mono (d : Nat → Nat) {u v : Nat} (h : u ≤ v) : pre d u ≤ pre d v := by
  induction v with
  | zero => rw [Nat.le_zero.1 h]; exact Nat.le_refl _
  | succ v ih =>
    by_cases e : u = v + 1
    · rw [e]; exact Nat.le_refl _
    · exact Nat.le_trans (ih (by omega)) (Nat.le_add_right _ _)
/-- How many edges each node has. -/
def dd (back : Bool) (es : List Ed) (u : Nat) : Nat := (rowL back u es).length
theorem rowK_len (back : Bool) (v : Int) (es : List Ed) : ∀ k, k ≤ es.length → (rowK back v es k).length = ((es.take k).filter fun e => outB back v e).length
  | 0, _ => by simp [rowK]
  | k + 1, h => by
    have hk : k < es.length := by omega
    have ih := rowK_len back v es k (by omega)
    have he := List.getElem?_eq_getElem hk
    rw [List.take_succ_eq_append_getElem hk, List.filter_append, List.length_append, ← ih]
    cases hb : outB back v es[k]
    · rw [rowK_no he hb]; simp [List.filter, hb]
    · rw [rowK_yes he hb]; simp [List.filter, hb]
theorem dd_cnt (back : Bool) (es : List Ed) (u : Nat) : ((dd back es u : Nat) : Int) = cnt (endE back) es u := by
  unfold dd cnt rowL
  rw [rowK_len back u es _ (Nat.le_refl _), List.take_length]
  congr 2
  apply List.filter_congr
  intro e _
  rw [Bool.eq_iff_iff, outB_end, decide_eq_true_iff]
theorem dd_list (back : Bool) (es : List Ed) (N : Nat) : cntL N (endE back) es = natI ((List.range N).map (dd back es)) := by
  unfold cntL natI
  rw [List.map_map]
  apply List.map_congr_left
  intro u _
  exact (dd_cnt back es u).symm
theorem pre_cons (back : Bool) (e : Ed) (es : List Ed) : ∀ N : Nat, 0 ≤ endE back e → pre (dd back (e :: es)) N = pre (dd back es) N + if endE back e < N then 1 else 0
  | 0, h => by simp [pre]; omega
  | N + 1, h => by
    have ih := pre_cons back e es N h
    have h1 : dd back (e :: es) N = dd back es N + if endE back e = N then 1 else 0 := by
      have a1 := dd_cnt back (e :: es) N
      have a2 := dd_cnt back es N
      unfold cnt at a1 a2
      by_cases hq : endE back e = N
      · rw [List.filter_cons_of_pos (by simpa using hq), List.length_cons] at a1
        rw [if_pos hq]; omega
      · rw [List.filter_cons_of_neg (by simpa using hq)] at a1
        rw [if_neg hq]; omega
    show pre _ N + dd _ _ N = pre _ N + dd _ _ N + _
    rw [ih, h1]
    split <;> split <;> split <;> omega
theorem pre_all (back : Bool) (N : Nat) : ∀ es : List Ed, (∀ e ∈ es, 0 ≤ endE back e ∧ endE back e < N) → pre (dd back es) N = es.length
  | [], _ => by
    have h0 : ∀ k, pre (dd back []) k = 0 := fun k => by
      induction k with
      | zero => rfl
      | succ k ih => show pre _ k + dd _ _ k = 0; rw [ih]; simp [dd, rowL, rowK]
    simpa using h0 N
  | e :: es, h => by
    have h0 := h e List.mem_cons_self
    rw [pre_cons back e es N h0.1, pre_all back N es fun x hx => h x (List.mem_cons_of_mem _ hx), if_pos h0.2, List.length_cons]
theorem rowK_mono (back : Bool) (v : Int) (es : List Ed) {k q : Nat} (h : k ≤ q) (hq : q ≤ es.length) : (rowK back v es k).length ≤ (rowK back v es q).length := by
  induction q with
  | zero => rw [Nat.le_zero.1 h]; exact Nat.le_refl _
  | succ q ih =>
    by_cases e : k = q + 1
    · rw [e]; exact Nat.le_refl _
    · refine Nat.le_trans (ih (by omega) (by omega)) ?_
      have he := List.getElem?_eq_getElem (show q < es.length by omega)
      cases hb : outB back v es[q]
      · rw [rowK_no he hb]; exact Nat.le_refl _
      · rw [rowK_yes he hb, List.length_append]; omega
/-! THE ROWS, FILLED SO FAR. -/
def RowsI (W : World) (C X N M : Nat) (d : Nat → Nat) (ls : Nat → List Nat) : Prop :=
  (∀ u, u < N → W.cell? ⟨C, u, none⟩ = some (.slice (some ⟨X, offC d u, none⟩) (ls u).length (d u)) ∧ W.frozen? ⟨C, u, none⟩ = false) ∧
  (∀ u, u < N → ∀ (j i : Nat), (ls u)[j]? = some i → W.cell? ⟨X, pre d u + j, none⟩ = some (.int .i64 (i : Int))) ∧
  (∀ q, q < M → (∃ x, W.cell? ⟨X, q, none⟩ = some x) ∧ W.frozen? ⟨X, q, none⟩ = false)
theorem RowsI.on {W w1 : World} (hb : Below W.heap.size W w1) {C X N M : Nat} {d : Nat → Nat} {ls : Nat → List Nat} (h : RowsI W C X N M d ls) : RowsI w1 C X N M d ls := by
  refine ⟨fun u hu => ⟨cell_on hb (h.1 u hu).1, frozen_on hb (h.1 u hu).1 (h.1 u hu).2⟩, fun u hu j i hj => cell_on hb (h.2.1 u hu j i hj), fun q hq => ?_⟩
  obtain ⟨⟨x, hx⟩, hf⟩ := h.2.2 q hq
  exact ⟨⟨x, cell_on hb hx⟩, frozen_on hb hx hf⟩
theorem RowsI.other {W : World} {C X N M : Nat} {d : Nat → Nat} {ls : Nat → List Nat} (h : RowsI W C X N M d ls) (q : Addr) (v : Value) (h1 : q.block ≠ C) (h2 : q.block ≠ X) : RowsI (W.setCell q v) C X N M d ls := by
  have e : ∀ b o, q.block ≠ b → (W.setCell q v).cell? ⟨b, o, none⟩ = W.cell? ⟨b, o, none⟩ := fun b o hq => World.cell?_setCell_other _ _ _ _ (fun e => hq (by rw [e]))
  refine ⟨fun u hu => ⟨by rw [e _ _ h1]; exact (h.1 u hu).1, by rw [World.frozen?_setCell]; exact (h.1 u hu).2⟩, fun u hu j i hj => by rw [e _ _ h2]; exact h.2.1 u hu j i hj, fun y hy => ⟨?_, by rw [World.frozen?_setCell]; exact (h.2.2 y hy).2⟩⟩
  rw [e _ _ h2]
  exact (h.2.2 y hy).1
/-- A number is put behind a row, where there is room. -/
theorem RowsI.push {W : World} {C X N M : Nat} {d : Nat → Nat} {ls : Nat → List Nat} (h : RowsI W C X N M d ls) (hCX : C ≠ X) (hall : pre d N ≤ M) {F : Nat} (hF : F < N) (hlen : ∀ u, u < N → (ls u).length ≤ d u) (hroom : (ls F).length < d F) (k : Nat) (ls' : Nat → List Nat) (h1 : ls' F = ls F ++ [k]) (h2 : ∀ u, u ≠ F → ls' u = ls u) :
    RowsI ((W.setCell ⟨X, pre d F + (ls F).length, none⟩ (.int .i64 (k : Int))).setCell ⟨C, F, none⟩ (.slice (some ⟨X, offC d F, none⟩) ((ls F).length + 1) (d F))) C X N M d ls' := by
  have hin : pre d F + (ls F).length < M := by
    have a1 := pre_mono d (show F + 1 ≤ N by omega)
    have a2 : pre d (F + 1) = pre d F + d F := rfl
    omega
  obtain ⟨⟨x0, hx0⟩, hf0⟩ := h.2.2 _ hin
  have eC : ∀ q : Nat, (W.setCell ⟨X, pre d F + (ls F).length, none⟩ (.int .i64 (k : Int))).cell? ⟨C, q, none⟩ = W.cell? ⟨C, q, none⟩ := fun q => World.cell?_setCell_other _ _ _ _ (fun e => hCX (congrArg Addr.block e).symm)
  have eX : ∀ (V : World) (q : Nat) v, (V.setCell ⟨C, F, none⟩ v).cell? ⟨X, q, none⟩ = V.cell? ⟨X, q, none⟩ := fun V q v => World.cell?_setCell_other _ _ _ _ (fun e => hCX (congrArg Addr.block e))
  refine ⟨fun u hu => ⟨?_, ?_⟩, fun u hu j i hj => ?_, fun q hq => ⟨?_, ?_⟩⟩
  · by_cases e : u = F
    · subst e
      rw [World.cell?_setCell_same _ _ _ (by rw [eC]; exact (h.1 u hu).1), h1, List.length_append]
      rfl
    · rw [World.cell?_setCell_other _ _ _ _ (by simp [e]), eC, h2 u e]
      exact (h.1 u hu).1
  · rw [World.frozen?_setCell, World.frozen?_setCell]
    exact (h.1 u hu).2
  · rw [eX]
    by_cases e : u = F
    · subst e
      rw [h1] at hj
      by_cases hjl : j < (ls u).length
      · rw [List.getElem?_append_left hjl] at hj
        rw [World.cell?_setCell_other _ _ _ _ (by simp <;> omega)]
        exact h.2.1 u hu j i hj
      · have hj2 : j = (ls u).length := by
          have := (List.getElem?_eq_some_iff.1 hj).1
          rw [List.length_append, List.length_singleton] at this
          omega
        subst hj2
        rw [List.getElem?_append_right (Nat.le_refl _), Nat.sub_self] at hj
        obtain rfl : k = i := by simpa using hj
        exact World.cell?_setCell_same _ _ _ hx0
    · rw [h2 u e] at hj
      have hjl : j < (ls u).length := (List.getElem?_eq_some_iff.1 hj).1
      have hlu := hlen u hu
      rw [World.cell?_setCell_other _ _ _ _ (by
        have a1 : pre d (u + 1) = pre d u + d u := rfl
        have a2 : pre d (F + 1) = pre d F + d F := rfl
        simp only [ne_eq, Addr.mk.injEq, true_and, and_true]
        rcases Nat.lt_or_gt_of_ne e with hlt | hgt
        · have := pre_mono d (show u + 1 ≤ F by omega); omega
        · have := pre_mono d (show F + 1 ≤ u by omega); omega)]
      exact h.2.1 u hu j i hj
  · rw [eX]
    by_cases e : q = pre d F + (ls F).length
    · subst e
      exact ⟨_, World.cell?_setCell_same _ _ _ hx0⟩
    · rw [World.cell?_setCell_other _ _ _ _ (by simp [e])]
      exact (h.2.2 q hq).1
  · rw [World.frozen?_setCell, World.frozen?_setCell]
    exact (h.2.2 q hq).2
end Go.Proofs.Ytpbjknhoiehonaa
