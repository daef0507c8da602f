import Derived.Test.YtifljelphniipaaGraK
set_option linter.unusedVariables false
set_option linter.unusedSimpArgs false
namespace Go.Proofs.Ytifljelphniipaa
open Go.RowKit
/-- A slice of bools that reads as these. -/
def BoolsAt (w : World) (v : Value) (ks : List Bool) : Prop := ∃ (a : Option Addr) (c : Nat), v = .slice a ks.length c ∧ ks.length ≤ c ∧
  (0 < ks.length → ∃ b off, a = some ⟨b, off, none⟩ ∧ ∀ j x, ks[j]? = some x → w.cell? ⟨b, off + j, none⟩ = some (.bool x))
theorem BoolsAt.on {W w1 : World} (hb : Below W.heap.size W w1) {v : Value} {ks : List Bool} (h : BoolsAt W v ks) : BoolsAt w1 v ks := by
  obtain ⟨a, c, rfl, hc, h⟩ := h
  refine ⟨a, c, rfl, hc, fun h0 => ?_⟩
  obtain ⟨b, off, rfl, hcell⟩ := h h0
  exact ⟨b, off, rfl, fun j x hx => cell_on hb (hcell j x hx)⟩
/-- The kept ones of the first so many nodes; and how many there are. -/
def keptL (ks : List Bool) (k : Nat) : List Nat := (List.range k).filter fun j => ks.getD j false
def rk (ks : List Bool) (k : Nat) : Nat := (keptL ks k).length
theorem keptL_yes {ks : List Bool} {k : Nat} (h : ks[k]? = some true) : keptL ks (k + 1) = keptL ks k ++ [k] := by
  have h1 : ks.getD k false = true := by rw [List.getD_eq_getElem?_getD, h]; rfl
  unfold keptL
  rw [List.range_succ, List.filter_append]
  simp [List.filter, h]
theorem keptL_no {ks : List Bool} {k : Nat} (h : ks[k]? = some false) : keptL ks (k + 1) = keptL ks k := by
  have h1 : ks.getD k false = false := by rw [List.getD_eq_getElem?_getD, h]; rfl
  unfold keptL
  rw [List.range_succ, List.filter_append]
  simp [List.filter, h]
theorem rk_le (ks : List Bool) (k : Nat) : rk ks k ≤ k := by
  unfold rk keptL
  have := List.length_filter_le (fun j => ks.getD j false) (List.range k)
  simpa using this
def natI (l : List Nat) : List Int := l.map fun (j : Nat) => (j : Int)
def natV (l : List Nat) : List Value := l.map fun (j : Nat) => Value.int .i64 (j : Int)
theorem natV_snoc (l : List Nat) (k : Nat) : natV (l ++ [k]) = natV l ++ [.int .i64 (k : Int)] := by simp [natV]
theorem ints_own {w : World} {base : Nat} {ty : TypeId} {v : Value} {l : List Nat} (h : w.ownsRow base ty 1 v l.length (natV l)) : IntsAt w v (natI l) := by
  have h' := h
  have hl : (natI l).length = l.length := by simp [natI]
  rcases h.2 with ⟨rfl, h0⟩ | ⟨g, cap, cur, rfl, _, _, hc, _⟩
  · exact ⟨none, 0, by rw [hl, h0], by omega, fun h1 => by omega⟩
  · refine ⟨some ⟨g, 0, none⟩, cap, by rw [hl], by rw [hl]; exact hc, fun h1 => ⟨g, 0, rfl, fun j x hx => ?_⟩⟩
    have hj : j < l.length := by rw [← hl]; exact (List.getElem?_eq_some_iff.1 hx).1
    rw [Nat.zero_add, h'.cellAt j (by omega)]
    unfold natI at hx
    unfold natV
    rw [List.getElem?_map] at hx ⊢
    cases hq : l[j]? with
    | none => rw [hq] at hx; cases hx
    | some y => rw [hq] at hx; simp at hx; subst hx; rfl
/-- The places told so far. -/
def atL (ks : List Bool) (n k : Nat) : List Int := (List.range n).map fun j => if j < k then (rk ks j : Int) else 0
theorem atL_len (ks : List Bool) (n k : Nat) : (atL ks n k).length = n := by simp [atL]
theorem atL_zero (ks : List Bool) (n : Nat) : atL ks n 0 = List.replicate n 0 := by
  apply List.ext_getElem?
  intro j
  simp only [atL, List.getElem?_map, List.getElem?_replicate]
  by_cases h : j < n
  · rw [List.getElem?_range h, if_pos h]; rfl
  · rw [List.getElem?_eq_none (by simpa using h), if_neg h]; rfl
theorem atL_at {ks : List Bool} {n k j : Nat} (h : j < n) : (atL ks n k)[j]? = some (if j < k then (rk ks j : Int) else 0) := by
  simp only [atL, List.getElem?_map]
  rw [List.getElem?_range h]; rfl
theorem atL_succ {ks : List Bool} {n k : Nat} (h : k < n) : atL ks n (k + 1) = (atL ks n k).set k (rk ks k : Int) := by
  apply List.ext_getElem?
  intro j
  by_cases hj : j < n
  · rw [atL_at hj]
    by_cases e : k = j
    · subst e
      rw [List.getElem?_set_self (by rw [atL_len]; exact h), if_pos (by omega)]
    · rw [List.getElem?_set_ne e, atL_at hj]
      by_cases x : j < k
      · rw [if_pos (by omega), if_pos x]
      · rw [if_neg (by omega), if_neg x]
  · rw [List.getElem?_eq_none (by rw [atL_len]; omega), List.getElem?_eq_none (by rw [List.length_set, atL_len]; omega)]
/-- Sub: the edges that stay. -/
def staysB (ks : List Bool) (e : Ed) : Bool := ks.getD e.f.toNat false && ks.getD e.t.toNat false
def movedE (ks : List Bool) (e : Ed) : Ed := ⟨rk ks e.f.toNat, rk ks e.t.toNat, e.w⟩
def subE (ks : List Bool) (es : List Ed) : List Ed := (es.filter (staysB ks)).map (movedE ks)
theorem subE_yes {ks : List Bool} {es : List Ed} {e : Ed} (h : staysB ks e = true) : subE ks (es ++ [e]) = subE ks es ++ [movedE ks e] := by simp [subE, List.filter_append, h]
theorem subE_no {ks : List Bool} {es : List Ed} {e : Ed} (h : staysB ks e = false) : subE ks (es ++ [e]) = subE ks es := by simp [subE, List.filter_append, h]
theorem subE_len (ks : List Bool) (es : List Ed) : (subE ks es).length ≤ es.length := by
  unfold subE
  rw [List.length_map]
  exact List.length_filter_le _ _
end Go.Proofs.Ytifljelphniipaa
