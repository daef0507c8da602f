import Derived.Test.YtcgijabnknemiaaGraK
set_option linter.unusedVariables false
set_option linter.unusedSimpArgs false
namespace Go.Proofs.Ytcgijabnknemiaa
open Go.RowKit
/-- A slice of bools that reads as these. -/
def BoolsAt (w : World) (v : Value) (ks : List Bool) : Prop := ∃ (a : Option Addr) (c : Nat), v = .slice a ks.length c ∧ ks.length ≤ c ∧
  (0 < ks.length → ∃ b off, a = some ⟨b, off, none⟩ ∧ ∀ j x, ks[j]? = some x → w.cell? ⟨b, off + j, none⟩ = some (.bool x))
theorem BoolsAt.on {W w1 : World} (hb : Below W.heap.size W w1) {v : Value} {ks : List Bool} (h : BoolsAt W v ks) : BoolsAt w1 v ks := by
  obtain ⟨a, c, rfl, hc, h⟩ := h
  refine ⟨a, c, rfl, hc, fun h0 => ?_⟩
  obtain ⟨b, off, rfl, hcell⟩ := h h0
  exact ⟨b, off, rfl, fun j x hx => cell_on hb (hcell j x hx)⟩
theorem slice_form {w : World} {base : Nat} {e : TypeId} {sz n : Nat} {v : Value} {xs : List Value} (h : w.ownsRow base e sz v n xs) : ∃ a c, v = .slice a n c := by
  rcases h.2 with ⟨h, h'⟩ | ⟨g, cap, cur, h, _⟩
  · exact ⟨none, 0, by rw [h, h']⟩
  · exact ⟨_, cap, h⟩
theorem owns_below {w w' : World} {B base : Nat} {e : TypeId} {sz n : Nat} {v : Value} {xs : List Value} (h : w.ownsRow base e sz v n xs) (hb : Below B w w') (hB : w.heap.size ≤ B) : w'.ownsRow base e sz v n xs := by
  refine ⟨h.1, ?_⟩
  rcases h.2 with h1 | ⟨g, cap, cur, h1, h2, h3, h4⟩
  · exact .inl h1
  · have hg : g < w.heap.size := (Array.getElem?_eq_some_iff.1 h3).1
    exact .inr ⟨g, cap, cur, h1, h2, by rw [hb.block g (by omega)]; exact h3, h4⟩
/-- The kept ones of the first so many nodes; and how many there are. -/
def keptL (ks : List Bool) (k : Nat) : List Nat := (List.range k).filter fun j => ks.getD j false
def rk (ks : List Bool) (k : Nat) : Nat := (keptL ks k).length
theorem keptL_yes {ks : List Bool} {k : Nat} (h : ks[k]? = some true) : keptL ks (k + 1) = keptL ks k ++ [k] := by
  have h1 : ks.getD k false = true := by rw [List.getD_eq_getElem?_getD, h]; rfl
  unfold keptL
  rw [List.range_succ, List.filter_append]
  simp [List.filter, h]
theorem keptL_no {ks : List Bool} {k : Nat} (h : ks[k]? = some false) : keptL ks (k + 1) = keptL ks k := by
  have h1 : ks.getD k false = false := by rw [List.getD_eq_getElem?_getD, h]; rfl
  unfold keptL
  rw [List.range_succ, List.filter_append]
  simp [List.filter, h]
theorem rk_le (ks : List Bool) (k : Nat) : rk ks k ≤ k := by
  unfold rk keptL
  have := List.length_filter_le (fun j => ks.getD j false) (List.range k)
  simpa using this
def natI (l : List Nat) : List Int := l.map fun (j : Nat) => (j : Int)
def natV (l : List Nat) : List Value := l.map fun (j : Nat) => Value.int .i64 (j : Int)
theorem natV_snoc (l : List Nat) (k : Nat) : natV (l ++ [k]) = natV l ++ [.int .i64 (k : Int)] := by simp [natV]
theorem ints_own {w : World} {base : Nat} {ty : TypeId} {v : Value} {l : List Nat} (h : w.ownsRow base ty 1 v l.length (natV l)) : IntsAt w v (natI l) := by
  have h' := h
  have hl : (natI l).length = l.length := by simp [natI]
  rcases h.2 with ⟨rfl, h0⟩ | ⟨g, cap, cur, rfl, _, _, hc, _⟩
  · exact ⟨none, 0, by rw [hl, h0], by omega, fun h1 => by omega⟩
  · refine ⟨some ⟨g, 0, none⟩, cap, by rw [hl], by rw [hl]; exact hc, fun h1 => ⟨g, 0, rfl, fun j x hx => ?_⟩⟩
    have hj : j < l.length := by rw [← hl]; exact (List.getElem?_eq_some_iff.1 hx).1
    rw [Nat.zero_add, h'.cellAt j (by omega)]
    unfold natI at hx
    unfold natV
    rw [List.getElem?_map] at hx ⊢
    cases hq : l[j]? with
    | none => rw [hq] at hx; cases hx
    | some y => rw [hq] at hx; simp at hx; subst hx; rfl
/-- The places told so far. -/
def atL (ks : List Bool) (n k : Nat) : List Int := (List.range n).map fun j => if j < k then (rk ks j : Int) else 0
theorem atL_len (ks : List Bool) (n k : Nat) : (atL ks n k).length = n := by simp [atL]
theorem atL_zero (ks : List Bool) (n : Nat) : atL ks n 0 = List.replicate n 0 := by
  apply List.ext_getElem?
  intro j
  simp only [atL, List.getElem?_map, List.getElem?_replicate]
  by_cases h : j < n
  · rw [List.getElem?_range h, if_pos h]; rfl
  · rw [List.getElem?_eq_none (by simpa using h), if_neg h]; rfl
theorem atL_at {ks : List Bool} {n k j : Nat} (h : j < n) : (atL ks n k)[j]? = some (if j < k then (rk ks j : Int) else 0) := by
  simp only [atL, List.getElem?_map]
  rw [List.getElem?_range h]; rfl
theorem atL_succ {ks : List Bool} {n k : Nat} (h : k < n) : atL ks n (k + 1) = (atL ks n k).set k (rk ks k : Int) := by
  apply List.ext_getElem?
  intro j
  by_cases hj : j < n
  · rw [atL_at hj]
    by_cases e : k = j
    · subst e
      rw [List.getElem?_set_self (by rw [atL_len]; exact h), if_pos (by omega)]
    · rw [List.getElem?_set_ne e, atL_at hj]
      by_cases x : j < k
      · rw [if_pos (by omega), if_pos x]
      · rw [if_neg (by omega), if_neg x]
  · rw [List.getElem?_eq_none (by rw [atL_len]; omega), List.getElem?_eq_none (by rw [List.length_set, atL_len]; omega)]
/-- Sub: the edges that stay. -/
def staysB (ks : List Bool) (e : Ed) : Bool := ks.getD e.f.toNat false && ks.getD e.t.toNat false
def movedE (ks : List Bool) (e : Ed) : Ed := ⟨rk ks e.f.toNat, rk ks e.t.toNat, e.w⟩
def subE (ks : List Bool) (es : List Ed) : List Ed := (es.filter (staysB ks)).map (movedE ks)
theorem subE_yes {ks : List Bool} {es : List Ed} {e : Ed} (h : staysB ks e = true) : subE ks (es ++ [e]) = subE ks es ++ [movedE ks e] := by simp [subE, List.filter_append, h]
theorem subE_no {ks : List Bool} {es : List Ed} {e : Ed} (h : staysB ks e = false) : subE ks (es ++ [e]) = subE ks es := by simp [subE, List.filter_append, h]
theorem subE_len (ks : List Bool) (es : List Ed) : (subE ks es).length ≤ es.length := by
  unfold subE
  rw [List.length_map]
  exact List.length_filter_le _ _
set_option maxHeartbeats 1000000 in
theorem rsub_no (n : Int) (E : Value) (a : Option Addr) (m c : Nat) (F : Int) (hF : F ≠ 0 ∨ (F = 0 ∧ (m : Int) ≠ n)) (w : World)
    (HR : Hid (∀ W, Below w.heap.size w W → Calls Try.prog 10 #[.agg #[.int .i64 n, E]] W fun e w' => e = .returned (.int .i64 F) ∧ Below W.heap.size W w')) :
    Calls Try.prog 26 #[.agg #[.int .i64 n, E], .slice a m c] w fun e w' => e = .returned (.tuple #[.agg #[.int .i64 0, .slice none 0 0], .slice none 0 0]) ∧ Below w.heap.size w w' := by
  have HB0 := Lib.hid (((Below.refl w.heap.size w).alloc (Nat.le_refl _) (.cells #[.int .i64 n, E] 24)).alloc (by simp) (.cells #[.int .i64 0, .slice none 0 0] 24))
  rcases hF with h | ⟨rfl, h⟩
  · have hne : (F != 0) = true := by rw [bne_iff_ne]; exact h
    clear h
    go_enter Try.func26, Try.ntmps26
    go_wp2_with (go_at_call 10; refine (HR.out _ HB0.out).mono ?_; rintro e w1 ⟨rfl, hB⟩; have c0 := cell_on hB (p := ⟨w.heap.size + 1, 0, none⟩) (v := .int .i64 0) (by simp); have c1 := cell_on hB (p := ⟨w.heap.size + 1, 1, none⟩) (v := .slice none 0 0) (by simp); have f0 := frozen_on hB (p := ⟨w.heap.size + 1, 0, none⟩) (v := .int .i64 0) (by simp) (by simp); have f1 := frozen_on hB (p := ⟨w.heap.size + 1, 1, none⟩) (v := .slice none 0 0) (by simp) (by simp); have HB1 := Lib.hid (on_trans HB0.out hB); clear hB HR)
    have h2 := set2_cells c0 c1 (.int .i64 0) (.slice none 0 0)
    exact bodyPost_ret_by (resGT rfl _ rfl h2.1 h2.2) rfl ⟨rfl, (HB1.out.setCell (by simp) _).setCell (by simp) _⟩
  · have hne : ((m : Int) != n) = true := by rw [bne_iff_ne]; exact h
    clear h
    go_enter Try.func26, Try.ntmps26
    go_wp2_with (go_at_call 10; refine (HR.out _ HB0.out).mono ?_; rintro e w1 ⟨rfl, hB⟩; have b0 := cell_on hB (p := ⟨w.heap.size, 0, none⟩) (v := .int .i64 n) (by simp); have c0 := cell_on hB (p := ⟨w.heap.size + 1, 0, none⟩) (v := .int .i64 0) (by simp); have c1 := cell_on hB (p := ⟨w.heap.size + 1, 1, none⟩) (v := .slice none 0 0) (by simp); have f0 := frozen_on hB (p := ⟨w.heap.size + 1, 0, none⟩) (v := .int .i64 0) (by simp) (by simp); have f1 := frozen_on hB (p := ⟨w.heap.size + 1, 1, none⟩) (v := .slice none 0 0) (by simp) (by simp); have HB1 := Lib.hid (on_trans HB0.out hB); clear hB HR)
    have h2 := set2_cells c0 c1 (.int .i64 0) (.slice none 0 0)
    exact bodyPost_ret_by (resGT rfl _ rfl h2.1 h2.2) rfl ⟨rfl, (HB1.out.setCell (by simp) _).setCell (by simp) _⟩
end Go.Proofs.Ytcgijabnknemiaa
