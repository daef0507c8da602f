import Derived.Test.YtlecidgfchaonaaDoorMF
set_option linter.unusedVariables false
set_option linter.unusedSimpArgs false
namespace Go.Proofs.YtlecidgfchaonaaDoor
open Go.RowKit
set_option maxHeartbeats 2000000 in
theorem gsame_some (n1 n2 : Int) (xs ys : List Ed) (b1 o1 c1 b2 o2 c2 m : Nat) (hn : n1 = n2) (hx : xs.length = m) (hy : ys.length = m) (w : World)
    (h1 : Hid (∀ (j : Nat) e, xs[j]? = some e → w.cell? ⟨b1, o1 + j * 3, none⟩ = some (.int .i64 e.f) ∧ w.cell? ⟨b1, o1 + j * 3 + 1, none⟩ = some (.int .i64 e.t) ∧ w.cell? ⟨b1, o1 + j * 3 + 2, none⟩ = some (.int .u64 (e.w : Int))))
    (h2 : Hid (∀ (j : Nat) e, ys[j]? = some e → w.cell? ⟨b2, o2 + j * 3, none⟩ = some (.int .i64 e.f) ∧ w.cell? ⟨b2, o2 + j * 3 + 1, none⟩ = some (.int .i64 e.t) ∧ w.cell? ⟨b2, o2 + j * 3 + 2, none⟩ = some (.int .u64 (e.w : Int)))) (hl : m ≤ 4000000) :
    Calls Tryd.prog 16 #[.agg #[.int .i64 n1, .slice (some ⟨b1, o1, none⟩) m c1], .agg #[.int .i64 n2, .slice (some ⟨b2, o2, none⟩) m c2]] w fun e w' => e = .returned (.bool (decide (xs = ys))) ∧ Below w.heap.size w w' := by
  subst hn
  have HB1 := Lib.hid (((Below.refl w.heap.size w).alloc (Nat.le_refl _) (.cells #[.int .i64 n1, .slice (some ⟨b1, o1, none⟩) m c1] 24)).alloc (by simp) (.cells #[.int .i64 n1, .slice (some ⟨b2, o2, none⟩) m c2] 24))
  go_enter Tryd.func16, Tryd.ntmps16
  go_wp2
  generalize hW : (w.alloc (.cells #[.int .i64 n1, .slice (some ⟨b1, o1, none⟩) m c1] 24)).alloc (.cells #[.int .i64 n1, .slice (some ⟨b2, o2, none⟩) m c2] 24) = W2 at HB1 ⊢
  have g1 : W2.cell? ⟨w.heap.size, 1, none⟩ = some (.slice (some ⟨b1, o1, none⟩) m c1) := by rw [← hW]; simp
  have g2 : W2.cell? ⟨w.heap.size + 1, 1, none⟩ = some (.slice (some ⟨b2, o2, none⟩) m c2) := by rw [← hW]; simp
  clear hW
  go_loopw [5] (fun i wr => ∃ k : Nat, k ≤ m ∧ i = .int .i64 k ∧ Hid (∀ j : Nat, j < k → xs[j]? = ys[j]?) ∧ Hid (Below W2.heap.size W2 wr)) (fun i _ => m - (RowKit.intOf i).toNat)
  case atStart => exact ⟨0, by omega, rfl, Lib.hid fun j h => by omega, Lib.hid (Below.refl _ _)⟩
  case round =>
    obtain ⟨k, hk, rfl, HA, HB⟩ := hrel
    have g1' := cell_on HB.out g1
    have g2' := cell_on HB.out g2
    clear g1 g2
    have HBw := Lib.hid (HB1.out.trans (HB.out.mono HB1.out.size))
    by_cases hlt : k < m
    · have hx0 : xs[k]? = some (xs[k]'(by omega)) := List.getElem?_eq_getElem (by omega)
      have hy0 : ys[k]? = some (ys[k]'(by omega)) := List.getElem?_eq_getElem (by omega)
      obtain ⟨⟨f1, t1, v1⟩, he1⟩ : ∃ x, xs[k]'(by omega) = x := ⟨_, rfl⟩
      obtain ⟨⟨f2, t2, v2⟩, he2⟩ : ∃ y, ys[k]'(by omega) = y := ⟨_, rfl⟩
      rw [he1] at hx0
      rw [he2] at hy0
      obtain ⟨p1, p2, p3⟩ := h1.out k _ hx0
      obtain ⟨q1, q2, q3⟩ := h2.out k _ hy0
      have p1' := cell_on HBw.out p1
      have p2' := cell_on HBw.out p2
      have p3' := cell_on HBw.out p3
      have q1' := cell_on HBw.out q1
      have q2' := cell_on HBw.out q2
      have q3' := cell_on HBw.out q3
      simp only at p1' p2' p3' q1' q2' q3'
      clear p1 p2 p3 q1 q2 q3 he1 he2
      by_cases ef : f1 = f2
      · by_cases et : t1 = t2
        · by_cases ev : v1 = v2
          · subst ef et ev
            have HN : Hid (∀ j : Nat, j < k + 1 → xs[j]? = ys[j]?) := Lib.hid fun j hj => by
              by_cases ej : j = k
              · rw [ej, hx0, hy0]
              · exact HA.out j (by omega)
            clear hx0 hy0
            go_wp2
            go_region
            all_goals go_wp2
            all_goals go_roundw
            case rel => exact ⟨k + 1, by omega, by go_num, HN, Lib.hid HB.out.drew⟩
            case measure => simp [RowKit.intOf] <;> omega
          · have hev : ¬ ((v1 : Int) = (v2 : Int)) := by omega
            subst ef et
            have HN : Hid (decide (xs = ys) = false) := Lib.hid (decide_eq_false fun e => by
              rw [e, hy0] at hx0
              injection hx0 with h
              injection h with a1 a2 a3
              exact ev a3.symm)
            clear hx0 hy0
            go_wp2
            go_region
            all_goals go_wp2
            all_goals go_ret
            all_goals exact ⟨by rw [HN.out]; rfl, HBw.out.drew⟩
        · subst ef
          have HN : Hid (decide (xs = ys) = false) := Lib.hid (decide_eq_false fun e => by
            rw [e, hy0] at hx0
            injection hx0 with h
            injection h with a1 a2 a3
            exact et a2.symm)
          clear hx0 hy0
          go_wp2
          go_region
          all_goals go_wp2
          all_goals go_ret
          all_goals exact ⟨by rw [HN.out]; rfl, HBw.out.drew⟩
      · have HN : Hid (decide (xs = ys) = false) := Lib.hid (decide_eq_false fun e => by
          rw [e, hy0] at hx0
          injection hx0 with h
          injection h with a1 a2 a3
          exact ef a1.symm)
        clear hx0 hy0
        go_wp2
        go_region
        all_goals go_wp2
        all_goals go_ret
        all_goals exact ⟨by rw [HN.out]; rfl, HBw.out.drew⟩
    · obtain rfl : k = m := by omega
      have HN : Hid (decide (xs = ys) = true) := Lib.hid (decide_eq_true (List.ext_getElem? fun j => by
        by_cases hj : j < k
        · exact HA.out j hj
        · rw [List.getElem?_eq_none (by omega), List.getElem?_eq_none (by omega)]))
      go_wp2
      go_ret
      exact ⟨by rw [HN.out]; rfl, HBw.out⟩
end Go.Proofs.YtlecidgfchaonaaDoor
