import Derived.Test.YtifljelphniipaaGraD
set_option linter.unusedVariables false
set_option linter.unusedSimpArgs false
namespace Go.Proofs.Ytifljelphniipaa
open Go.RowKit
/-- A slice of ints that reads as these. -/
def IntsAt (w : World) (v : Value) (xs : List Int) : Prop := ∃ (a : Option Addr) (c : Nat), v = .slice a xs.length c ∧ xs.length ≤ c ∧
  (0 < xs.length → ∃ b off, a = some ⟨b, off, none⟩ ∧ ∀ j x, xs[j]? = some x → w.cell? ⟨b, off + j, none⟩ = some (.int .i64 x))
theorem IntsAt.on {W w1 : World} (hb : Below W.heap.size W w1) {v : Value} {xs : List Int} (h : IntsAt W v xs) : IntsAt w1 v xs := by
  obtain ⟨a, c, rfl, hc, h⟩ := h
  refine ⟨a, c, rfl, hc, fun h0 => ?_⟩
  obtain ⟨b, off, rfl, hcell⟩ := h h0
  exact ⟨b, off, rfl, fun j x hx => cell_on hb (hcell j x hx)⟩
set_option maxHeartbeats 1000000 in
theorem isame_some (b1 o1 c1 b2 o2 c2 : Nat) (xs ys : List Int) (hl : xs.length = ys.length) (hb : xs.length ≤ 4000000) (w : World)
    (h1 : Hid (∀ (j : Nat) x, xs[j]? = some x → w.cell? ⟨b1, o1 + j, none⟩ = some (.int .i64 x))) (h2 : Hid (∀ (j : Nat) y, ys[j]? = some y → w.cell? ⟨b2, o2 + j, none⟩ = some (.int .i64 y))) :
    Calls Try.prog 13 #[.slice (some ⟨b1, o1, none⟩) xs.length c1, .slice (some ⟨b2, o2, none⟩) ys.length c2] w fun e w' => e = .returned (.bool (decide (xs = ys))) ∧ Below w.heap.size w w' := by
  obtain ⟨n, hn⟩ : ∃ n, xs.length = n := ⟨_, rfl⟩
  have hn2 : ys.length = n := by omega
  rw [hn, hn2]
  go_enter Try.func13, Try.ntmps13
  go_wp2
  go_loopw [5] (fun i wr => ∃ k : Nat, k ≤ n ∧ i = .int .i64 k ∧ Hid (∀ j : Nat, j < k → xs[j]? = ys[j]?) ∧ Hid (Below w.heap.size w wr)) (fun i _ => n - (RowKit.intOf i).toNat)
  case atStart => exact ⟨0, Nat.zero_le _, rfl, Lib.hid fun j h => by omega, Lib.hid (Below.refl _ _)⟩
  case round =>
    obtain ⟨k, hk, rfl, HA, HB⟩ := hrel
    by_cases hlt : k < n
    · have hx0 : xs[k]? = some (xs[k]'(by omega)) := List.getElem?_eq_getElem (by omega)
      have hy0 : ys[k]? = some (ys[k]'(by omega)) := List.getElem?_eq_getElem (by omega)
      have e1 := cell_on HB.out (h1.out k _ hx0)
      have e2 := cell_on HB.out (h2.out k _ hy0)
      obtain ⟨x, hx⟩ : ∃ x, xs[k]'(by omega) = x := ⟨_, rfl⟩
      obtain ⟨y, hy⟩ : ∃ y, ys[k]'(by omega) = y := ⟨_, rfl⟩
      rw [hx] at e1 hx0
      rw [hy] at e2 hy0
      by_cases hxy : x = y
      · subst hxy
        have HN : Hid (∀ j : Nat, j < k + 1 → xs[j]? = ys[j]?) := Lib.hid fun j hj => by
          by_cases ej : j = k
          · rw [ej, hx0, hy0]
          · exact HA.out j (by omega)
        clear hx0 hy0 hx hy
        go_wp2
        go_region
        all_goals go_wp2
        all_goals go_roundw
        case rel => exact ⟨k + 1, by omega, by go_num, HN, Lib.hid HB.out.drew⟩
        case measure => simp [RowKit.intOf] <;> omega
      · have hne : (x != y) = true := by rw [bne_iff_ne]; exact hxy
        have HN : Hid (decide (xs = ys) = false) := Lib.hid (decide_eq_false fun e => hxy (by rw [e, hy0] at hx0; exact (Option.some.inj hx0).symm))
        clear hx0 hy0 hx hy hxy
        go_wp2
        go_region
        all_goals go_wp2
        all_goals go_ret
        all_goals exact ⟨by rw [HN.out]; rfl, HB.out.drew⟩
    · obtain rfl : k = n := by omega
      have HN : Hid (decide (xs = ys) = true) := Lib.hid (decide_eq_true (List.ext_getElem? fun j => by
        by_cases hj : j < k
        · exact HA.out j hj
        · rw [List.getElem?_eq_none (by omega), List.getElem?_eq_none (by omega)]))
      go_wp2
      go_ret
      exact ⟨by rw [HN.out]; rfl, HB.out⟩
end Go.Proofs.Ytifljelphniipaa
