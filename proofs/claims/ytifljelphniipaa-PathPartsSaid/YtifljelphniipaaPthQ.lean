import Derived.Test.YtifljelphniipaaPthP
set_option linter.unusedVariables false
set_option linter.unusedSimpArgs false
namespace Go.Proofs.Ytifljelphniipaa
open Go.RowKit
/-! PathParts' PLAIN FACTS. -/
theorem okL_iff (m : Nat) (l : List Int) : okL m l = true ↔ ∀ x ∈ l, 0 ≤ x ∧ x < (m : Int) := by
  unfold okL
  rw [List.all_eq_true]
  exact ⟨fun h x hx => by simpa using h x hx, fun h x hx => by simpa using h x hx⟩
theorem edF_iff (n : Int) (es : List Ed) (l : List Int) : edF n es l = true ↔ rightF n es = 0 ∧ ∀ x ∈ l, 0 ≤ x ∧ x < (es.length : Int) := by
  unfold edF
  rw [Bool.and_eq_true, decide_eq_true_iff, okL_iff]
/-- Each step of a way. -/
theorem nodesK_some {es : List Ed} {l : List Int} {s : Int} : ∀ {k : Nat} {out : List Int}, nodesK es l s k = some out → out.length = k + 1 ∧ out[0]? = some s ∧ ∀ j, j < k → ∃ i e, l[j]? = some i ∧ es[i.toNat]? = some e ∧ out[j]? = some e.f ∧ out[j + 1]? = some e.t
  | 0, out, h => by
    obtain rfl : [s] = out := by simpa [nodesK] using h
    exact ⟨rfl, rfl, fun j hj => absurd hj (by omega)⟩
  | k + 1, out, h => by
    unfold nodesK at h
    cases ho : nodesK es l s k with
    | none => rw [ho] at h; cases h
    | some o =>
      obtain ⟨h1, h2, h3⟩ := nodesK_some ho
      rw [ho] at h
      cases hi : l[k]? with
      | none => rw [hi] at h; cases h
      | some i =>
        rw [hi] at h
        simp only [Option.bind_some] at h
        cases he : es[i.toNat]? with
        | none => rw [he] at h; cases h
        | some e =>
          rw [he] at h
          simp only [Option.bind_some] at h
          by_cases hf : e.f = lastI o
          · rw [if_pos hf] at h
            obtain rfl := Option.some.inj h
            have hl : o[k]? = some e.f := by
              rw [hf]
              unfold lastI
              rw [List.getLast?_eq_getElem?, h1, Nat.add_sub_cancel]
              rw [List.getElem?_eq_getElem (by omega)]
              rfl
            refine ⟨by simp [h1], by rw [List.getElem?_append_left (by omega)]; exact h2, fun j hj => ?_⟩
            by_cases hjk : j = k
            · subst hjk
              refine ⟨i, e, hi, he, by rw [List.getElem?_append_left (by omega)]; exact hl, ?_⟩
              rw [List.getElem?_append_right (by omega), h1, Nat.sub_self]
              rfl
            · obtain ⟨i', e', q1, q2, q3, q4⟩ := h3 j (by omega)
              exact ⟨i', e', q1, q2, by rw [List.getElem?_append_left (by omega)]; exact q3, by rw [List.getElem?_append_left (by omega)]; exact q4⟩
          · rw [if_neg hf] at h; cases h
theorem lastI_at {out : List Int} {k : Nat} {x : Int} (h1 : out.length = k + 1) (h2 : out[k]? = some x) : lastI out = x := by
  unfold lastI
  rw [List.getLast?_eq_getElem?, h1, Nat.add_sub_cancel, h2]
  rfl
/-- Whose steps are these is the way. -/
theorem nodesK_of {es : List Ed} {l : List Int} {s : Int} {out : List Int} : ∀ {k : Nat}, out.length = k + 1 → out[0]? = some s → (∀ j, j < k → ∃ i e, l[j]? = some i ∧ es[i.toNat]? = some e ∧ out[j]? = some e.f ∧ out[j + 1]? = some e.t) → nodesK es l s k = some out := by
  intro k h1 h2 h3
  have h : ∀ q, q ≤ k → nodesK es l s q = some (out.take (q + 1)) := by
    intro q
    induction q with
    | zero =>
      intro _
      unfold nodesK
      rw [List.take_succ_eq_append_getElem (by omega), List.take_zero]
      obtain ⟨_, hq⟩ := List.getElem?_eq_some_iff.1 h2
      rw [hq]; rfl
    | succ q ih =>
      intro hq
      obtain ⟨i, e, q1, q2, q3, q4⟩ := h3 q (by omega)
      unfold nodesK
      rw [ih (by omega), q1]
      simp only [Option.bind_some, q2]
      rw [if_pos]
      · rw [List.take_succ_eq_append_getElem (show q + 1 < out.length by omega)]
        obtain ⟨_, hz⟩ := List.getElem?_eq_some_iff.1 q4
        rw [hz]
      · refine (lastI_at (k := q) (by rw [List.length_take]; omega) ?_).symm
        rw [List.getElem?_take, if_pos (by omega)]
        exact q3
  have := h k (Nat.le_refl _)
  rwa [List.take_of_length_le (by omega)] at this
theorem isF_iff (n s t : Int) (es : List Ed) (l : List Int) : isF n es s t l = true ↔ ∃ out, nodesO n es s l = some out ∧ lastI out = t := by
  unfold isF
  cases h : nodesO n es s l with
  | none => simp
  | some out => simp
theorem nodesO_iff (n s : Int) (es : List Ed) (l : List Int) (out : List Int) : nodesO n es s l = some out ↔ edF n es l = true ∧ 0 ≤ s ∧ s < n ∧ nodesK es l s l.length = some out := by
  unfold nodesO
  constructor
  · intro h
    split at h
    · rename_i hc
      exact ⟨hc.1, hc.2.1, hc.2.2, h⟩
    · cases h
  · rintro ⟨h1, h2, h3, h4⟩
    rw [if_pos ⟨h1, h2, h3⟩, h4]
/-- The nodes of a way are nodes. -/
theorem nodesO_in {n s : Int} {es : List Ed} {l out : List Int} (h : nodesO n es s l = some out) : ∀ x ∈ out, 0 ≤ x ∧ x < n := by
  obtain ⟨h1, h2, h3, h4⟩ := (nodesO_iff ..).1 h
  obtain ⟨q1, q2, q3⟩ := nodesK_some h4
  have r := right_ends ((edF_iff n es l).1 h1).1
  intro x hx
  obtain ⟨j, hj, rfl⟩ := List.getElem_of_mem hx
  cases j with
  | zero =>
    obtain ⟨_, hz⟩ := List.getElem?_eq_some_iff.1 q2
    rw [hz]; exact ⟨h2, h3⟩
  | succ j =>
    obtain ⟨i, e, _, r2, _, r4⟩ := q3 j (by omega)
    obtain ⟨_, hz⟩ := List.getElem?_eq_some_iff.1 r4
    rw [hz]
    have := r.2.2.2 e (List.mem_of_getElem? r2)
    exact ⟨this.2.2.1, this.2.2.2.1⟩
/-- A way that is cut is two ways. -/
theorem isF_cut {n s t : Int} {es : List Ed} {l out : List Int} (h : nodesO n es s l = some out) (ht : lastI out = t) {k : Nat} (hk : k ≤ l.length) {x : Int} (hx : out[k]? = some x) : isF n es s x (l.take k) = true ∧ isF n es x t (l.drop k) = true := by
  obtain ⟨h1, h2, h3, h4⟩ := (nodesO_iff ..).1 h
  obtain ⟨q1, q2, q3⟩ := nodesK_some h4
  obtain ⟨e1, e2⟩ := (edF_iff n es l).1 h1
  have hxin := nodesO_in h x (List.mem_of_getElem? hx)
  constructor
  · refine (isF_iff ..).2 ⟨out.take (k + 1), (nodesO_iff ..).2 ⟨(edF_iff ..).2 ⟨e1, fun y hy => e2 y (List.mem_of_mem_take hy)⟩, h2, h3, ?_⟩, ?_⟩
    · rw [List.length_take, Nat.min_eq_left hk]
      refine nodesK_of (by rw [List.length_take]; omega) (by rw [List.getElem?_take, if_pos (by omega)]; exact q2) fun j hj => ?_
      obtain ⟨i, e, r1, r2, r3, r4⟩ := q3 j (by omega)
      exact ⟨i, e, by rw [List.getElem?_take, if_pos hj]; exact r1, r2, by rw [List.getElem?_take, if_pos (by omega)]; exact r3, by rw [List.getElem?_take, if_pos (by omega)]; exact r4⟩
    · exact lastI_at (k := k) (by rw [List.length_take]; omega) (by rw [List.getElem?_take, if_pos (by omega)]; exact hx)
  · refine (isF_iff ..).2 ⟨out.drop k, (nodesO_iff ..).2 ⟨(edF_iff ..).2 ⟨e1, fun y hy => e2 y (List.mem_of_mem_drop hy)⟩, hxin.1, hxin.2, ?_⟩, ?_⟩
    · rw [List.length_drop]
      refine nodesK_of (by rw [List.length_drop]; omega) (by rw [List.getElem?_drop, Nat.add_zero]; exact hx) fun j hj => ?_
      obtain ⟨i, e, r1, r2, r3, r4⟩ := q3 (k + j) (by omega)
      exact ⟨i, e, by rw [List.getElem?_drop]; exact r1, r2, by rw [List.getElem?_drop]; exact r3, by rw [List.getElem?_drop, ← Nat.add_assoc]; exact r4⟩
    · rw [← ht]
      have hz : out[l.length]? = some (lastI out) := by
        have hlt : l.length < out.length := by omega
        rw [List.getElem?_eq_getElem hlt, lastI_at q1 (List.getElem?_eq_getElem hlt)]
      exact lastI_at (k := l.length - k) (by rw [List.length_drop]; omega) (by rw [List.getElem?_drop, show k + (l.length - k) = l.length by omega]; exact hz)
theorem sumL_split (es : List Ed) (l : List Int) (k : Nat) : sumL es (l.take k) + sumL es (l.drop k) = sumL es l := by
  unfold sumL
  rw [← List.sum_append, ← List.map_append, List.take_append_drop]
theorem sumL_le {n : Int} {es : List Ed} (h : rightF n es = 0) : ∀ l : List Int, sumL es l ≤ l.length * 4294967296
  | [] => by simp [sumL]
  | x :: l => by
    have ih := sumL_le h l
    have r := right_ends h
    have hx : wtE es x ≤ 4294967296 := by
      unfold wtE
      cases he : es[x.toNat]? with
      | none => simp
      | some e => exact (r.2.2.2 e (List.mem_of_getElem? he)).2.2.2.2.2.2
    unfold sumL at ih ⊢
    rw [List.map_cons, List.sum_cons, List.length_cons, Nat.add_mul]
    omega
theorem sumL_nodup (es : List Ed) : ∀ (d b : List Int), d.Nodup → (∀ x ∈ d, x ∈ b) → sumL es d ≤ sumL es b
  | [], b, _, _ => by simp [sumL]
  | x :: d, b, hn, hs => by
    obtain ⟨b1, b2, rfl⟩ := List.append_of_mem (hs x List.mem_cons_self)
    have hn' := List.nodup_cons.1 hn
    have ih := sumL_nodup es d (b1 ++ b2) hn'.2 fun y hy => by
      have := hs y (List.mem_cons_of_mem _ hy)
      rw [List.mem_append, List.mem_cons] at this
      rw [List.mem_append]
      rcases this with h | h | h
      · exact .inl h
      · subst h; exact absurd hy hn'.1
      · exact .inr h
    unfold sumL at ih ⊢
    simp only [List.map_append, List.map_cons, List.sum_append, List.sum_cons] at ih ⊢
    omega
/-- What is shared with a list weighs no more than the list. -/
theorem shareK_le (es : List Ed) (a b : List Int) : ∀ k, k ≤ a.length → ∃ d : List Int, shareK es a b k = sumL es d ∧ d.Nodup ∧ (∀ x ∈ d, x ∈ b) ∧ ∀ x ∈ d, x ∈ a.take k
  | 0, _ => ⟨[], rfl, List.nodup_nil, (fun x hx => by cases hx), (fun x hx => by cases hx)⟩
  | k + 1, hk => by
    obtain ⟨d, h1, h2, h3, h4⟩ := shareK_le es a b k (by omega)
    have hlt : k < a.length := by omega
    have hx := List.getElem?_eq_getElem hlt
    have ht : a.take (k + 1) = a.take k ++ [a[k]] := List.take_succ_eq_append_getElem hlt
    by_cases hc : hasB b a[k] = true ∧ hasB (a.take k) a[k] = false
    · refine ⟨a[k] :: d, ?_, ?_, ?_, ?_⟩
      · unfold shareK
        rw [hx]
        simp only [if_pos hc]
        rw [h1]
        unfold sumL
        rw [List.map_cons, List.sum_cons]
        omega
      · refine List.nodup_cons.2 ⟨fun hm => ?_, h2⟩
        have := (hasB_iff (a.take k) a[k]).2 (h4 _ hm)
        rw [this] at hc
        exact absurd hc.2 (by decide)
      · intro y hy
        rcases List.mem_cons.1 hy with rfl | hy
        · exact (hasB_iff b _).1 hc.1
        · exact h3 y hy
      · intro y hy
        rw [ht, List.mem_append]
        rcases List.mem_cons.1 hy with rfl | hy
        · exact .inr List.mem_cons_self
        · exact .inl (h4 y hy)
    · refine ⟨d, ?_, h2, h3, fun y hy => by rw [ht, List.mem_append]; exact .inl (h4 y hy)⟩
      unfold shareK
      rw [hx]
      simp only [if_neg hc]
      exact h1
/-- All within bounds and none twice: no more than there are. -/
theorem nodup_len : ∀ (n : Nat) (l : List Int), l.Nodup → (∀ x ∈ l, 0 ≤ x ∧ x < (n : Int)) → l.length ≤ n
  | 0, [], _, _ => Nat.le_refl _
  | 0, x :: l, _, h => by have := h x List.mem_cons_self; omega
  | n + 1, l, hn, h => by
    have hf := nodup_len n (l.filter fun x => decide (x ≠ (n : Int))) (hn.filter _) fun x hx => by
      have h1 := List.mem_filter.1 hx
      have h2 := h x h1.1
      have h3 : x ≠ (n : Int) := by simpa using h1.2
      omega
    have hc : ∀ l : List Int, l.Nodup → l.length ≤ (l.filter fun x => decide (x ≠ (n : Int))).length + 1 := by
      intro l
      induction l with
      | nil => intro _; simp
      | cons x l ih =>
        intro hn
        have hn' := List.nodup_cons.1 hn
        by_cases hx : x = (n : Int)
        · have : (l.filter fun y => decide (y ≠ (n : Int))) = l := List.filter_eq_self.2 fun y hy => by
            simp only [ne_eq, decide_eq_true_eq]
            rintro rfl
            exact hn'.1 (hx ▸ hy)
          rw [List.filter_cons_of_neg (by simp [hx]), this]
          simp
        · rw [List.filter_cons_of_pos (by simp [hx]), List.length_cons, List.length_cons]
          have := ih hn'.2
          omega
    have := hc l hn
    omega
end Go.Proofs.Ytifljelphniipaa
