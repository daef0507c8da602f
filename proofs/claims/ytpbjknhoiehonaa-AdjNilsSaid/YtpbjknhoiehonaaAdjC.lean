import Derived.Test.YtpbjknhoiehonaaAdjB
set_option linter.unusedVariables false
set_option linter.unusedSimpArgs false
namespace Go.Proofs.Ytpbjknhoiehonaa
open Go.RowKit
def endE (back : Bool) (e : Ed) : Int := if back then e.t else e.f
theorem outB_end (back : Bool) (v : Int) (e : Ed) : outB back v e = true ↔ endE back e = v := by
  cases back <;> simp [outB, endE]
/-- How often each edge was met: those of nodes below v, and those told of v. -/
def cntA (back : Bool) (es : List Ed) (v : Int) (l : List Nat) : List Int := (List.range es.length).map fun j => match es[j]? with | some e => if endE back e < v ∨ j ∈ l then 1 else 0 | none => 0
theorem cntA_len (back : Bool) (es : List Ed) (v : Int) (l : List Nat) : (cntA back es v l).length = es.length := by simp [cntA]
theorem cntA_at {back : Bool} {es : List Ed} {v : Int} {l : List Nat} {j : Nat} {e : Ed} (h : es[j]? = some e) : (cntA back es v l)[j]? = some (if endE back e < v ∨ j ∈ l then 1 else 0) := by
  have hj := (List.getElem?_eq_some_iff.1 h).1
  unfold cntA
  rw [List.getElem?_map, List.getElem?_range hj]
  simp only [Option.map_some, h]
theorem cntA_ext {es : List Ed} {back : Bool} {v : Int} {l : List Nat} {xs : List Int} (hl : xs.length = es.length) (h : ∀ j e, es[j]? = some e → xs[j]? = some (if endE back e < v ∨ j ∈ l then 1 else 0)) : xs = cntA back es v l := by
  apply List.ext_getElem?
  intro j
  by_cases hj : j < es.length
  · have he := List.getElem?_eq_getElem hj
    rw [h j _ he, cntA_at he]
  · rw [List.getElem?_eq_none (by omega), List.getElem?_eq_none (by rw [cntA_len]; omega)]
theorem cntA_zero {back : Bool} {es : List Ed} (h : ∀ e ∈ es, 0 ≤ endE back e) : List.replicate es.length (0 : Int) = cntA back es 0 [] := by
  refine cntA_ext (by simp) fun j e he => ?_
  have hj := (List.getElem?_eq_some_iff.1 he).1
  have hm := h e (List.mem_of_getElem? he)
  rw [List.getElem?_replicate, if_pos hj, if_neg (by simp; omega)]
theorem rowL_mem {back : Bool} {v : Int} {es : List Ed} {j : Nat} {e : Ed} (h : es[j]? = some e) : j ∈ rowL back v es ↔ endE back e = v := by
  have hj := (List.getElem?_eq_some_iff.1 h).1
  unfold rowL rowK
  rw [List.mem_filter]
  simp only [h, List.mem_range, outB_end]
  exact ⟨fun x => x.2, fun x => ⟨hj, x⟩⟩
theorem rowL_nodup (back : Bool) (v : Int) (es : List Ed) : (rowL back v es).Nodup := List.Pairwise.filter _ List.nodup_range
theorem cntA_next (back : Bool) (es : List Ed) (v : Int) : cntA back es v (rowL back v es) = cntA back es (v + 1) [] := by
  refine cntA_ext (cntA_len _ _ _ _) fun j e he => ?_
  rw [cntA_at he]
  have hm := rowL_mem (back := back) (v := v) he
  have hq : (endE back e < v ∨ j ∈ rowL back v es) ↔ (endE back e < v + 1 ∨ j ∈ ([] : List Nat)) := by
    rw [hm]
    simp
    omega
  simp only [hq]
theorem cntA_old {back : Bool} {es : List Ed} {v : Int} {i j : Nat} {e : Ed} (hr : (rowL back v es)[i]? = some j) (he : es[j]? = some e) : (cntA back es v ((rowL back v es).take i))[j]? = some 0 := by
  have hm := (rowL_mem (back := back) (v := v) he).1 (List.mem_of_getElem? hr)
  have hn := rowL_nodup back v es
  rw [cntA_at he, if_neg]
  rintro (h | h)
  · omega
  · obtain ⟨hi, rfl⟩ := List.getElem?_eq_some_iff.1 hr
    obtain ⟨q, hq, h2⟩ := List.mem_iff_getElem.1 h
    rw [List.getElem_take] at h2
    have hq2 : q < i := by rw [List.length_take] at hq; omega
    exact absurd ((List.getElem_inj (h₀ := by omega) (h₁ := hi) hn).1 h2) (by omega)
theorem cntA_step {back : Bool} {es : List Ed} {v : Int} {i j : Nat} {e : Ed} (hr : (rowL back v es)[i]? = some j) (he : es[j]? = some e) : (cntA back es v ((rowL back v es).take i)).set j 1 = cntA back es v ((rowL back v es).take (i + 1)) := by
  have hj := (List.getElem?_eq_some_iff.1 he).1
  obtain ⟨hi, hij⟩ := List.getElem?_eq_some_iff.1 hr
  have ht : (rowL back v es).take (i + 1) = (rowL back v es).take i ++ [j] := by rw [List.take_succ_eq_append_getElem hi, hij]
  refine cntA_ext (by simp [cntA_len]) fun q x hx => ?_
  rw [ht]
  by_cases hq : j = q
  · subst hq
    rw [List.getElem?_set_self (by rw [cntA_len]; exact hj), if_pos (by simp)]
  · rw [List.getElem?_set_ne hq, cntA_at hx]
    have hq2 : (endE back x < v ∨ q ∈ (rowL back v es).take i) ↔ (endE back x < v ∨ q ∈ (rowL back v es).take i ++ [j]) := by
      rw [List.mem_append, List.mem_singleton]
      constructor
      · rintro (h | h)
        · exact .inl h
        · exact .inr (.inl h)
      · rintro (h | h | h)
        · exact .inl h
        · exact .inr h
        · exact absurd h.symm hq
    simp only [hq2]
theorem cntA_full {back : Bool} {es : List Ed} {n : Int} (h : ∀ e ∈ es, endE back e < n) {j : Nat} (hj : j < es.length) : (cntA back es n [])[j]? = some 1 := by
  have he := List.getElem?_eq_getElem hj
  rw [cntA_at he, if_pos (.inl (h _ (List.getElem_mem _)))]
/-- A told row: its first i places say -1. -/
def spent (l : List Nat) (i : Nat) : List Int := (List.range l.length).map fun j => if j < i then -1 else ((l.getD j 0 : Nat) : Int)
theorem spent_len (l : List Nat) (i : Nat) : (spent l i).length = l.length := by simp [spent]
theorem spent_at {l : List Nat} {i j : Nat} (h : j < l.length) : (spent l i)[j]? = some (if j < i then -1 else ((l.getD j 0 : Nat) : Int)) := by
  unfold spent
  rw [List.getElem?_map, List.getElem?_range h]
  rfl
theorem spent_zero (l : List Nat) : spent l 0 = natI l := by
  apply List.ext_getElem?
  intro j
  by_cases hj : j < l.length
  · rw [spent_at hj, if_neg (by omega)]
    unfold natI
    rw [List.getElem?_map, List.getElem?_eq_getElem hj, List.getD_eq_getElem?_getD, List.getElem?_eq_getElem hj]
    rfl
  · rw [List.getElem?_eq_none (by rw [spent_len]; omega), List.getElem?_eq_none (by simp [natI]; omega)]
theorem spent_step {l : List Nat} {i : Nat} (h : i < l.length) : (spent l i).set i (-1) = spent l (i + 1) := by
  apply List.ext_getElem?
  intro j
  by_cases hj : j < l.length
  · rw [spent_at hj]
    by_cases e : i = j
    · subst e
      rw [List.getElem?_set_self (by rw [spent_len]; exact h), if_pos (by omega)]
    · rw [List.getElem?_set_ne e, spent_at hj]
      by_cases h2 : j < i
      · rw [if_pos h2, if_pos (by omega)]
      · rw [if_neg h2, if_neg (by omega)]
  · rw [List.getElem?_eq_none (by simp [spent_len]; omega), List.getElem?_eq_none (by rw [spent_len]; omega)]
theorem spent_now {l : List Nat} {i j : Nat} (h : l[i]? = some j) : (spent l i)[i]? = some (j : Int) := by
  have hi := (List.getElem?_eq_some_iff.1 h).1
  rw [spent_at hi, if_neg (by omega), List.getD_eq_getElem?_getD, h]
  rfl
end Go.Proofs.Ytpbjknhoiehonaa
