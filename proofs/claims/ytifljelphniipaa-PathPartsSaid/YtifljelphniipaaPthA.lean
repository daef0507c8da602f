import Derived.Test.YtifljelphniipaaGraL
import Derived.Test.YtifljelphniipaaLig
set_option linter.unusedVariables false
set_option linter.unusedSimpArgs false
namespace Go.Proofs.Ytifljelphniipaa
open Go.RowKit
attribute [local go_sem ↓] Go.wp_at_zero Go.wp_at_succ
/-- Are all of them numbers of edges, of a graph that may be? -/
def okL (m : Nat) (l : List Int) : Bool := l.all fun x => decide (0 ≤ x) && decide (x < (m : Int))
def edF (n : Int) (es : List Ed) (l : List Int) : Bool := decide (rightF n es = 0) && okL es.length l
theorem okL_no {m k : Nat} {l : List Int} {x : Int} (hx : l[k]? = some x) (h : ¬ (0 ≤ x ∧ x < (m : Int))) : okL m l = false := by
  unfold okL
  rw [List.all_eq_false]
  exact ⟨x, List.mem_of_getElem? hx, by simpa using fun h0 => by omega⟩
theorem okL_yes {m : Nat} {l : List Int} (h : ∀ (j : Nat) x, j < l.length → l[j]? = some x → 0 ≤ x ∧ x < (m : Int)) : okL m l = true := by
  unfold okL
  rw [List.all_eq_true]
  intro x hx
  obtain ⟨i, hi, rfl⟩ := List.getElem_of_mem hx
  have := h i _ hi (List.getElem?_eq_getElem hi)
  simp [this.1, this.2]
theorem okL_at {m : Nat} {l : List Int} (h : okL m l = true) {x : Int} (hx : x ∈ l) : 0 ≤ x ∧ x < (m : Int) := by
  have := List.all_eq_true.1 h x hx
  simpa using this
set_option maxHeartbeats 1000000 in
theorem redges8_no (n : Int) (E U : Value) (F : Int) (hF : F ≠ 0) (w : World)
    (HR : Hid (∀ W, Below w.heap.size w W → Calls Try.prog 31 #[.agg #[.int .i64 n, E]] W fun e w' => e = .returned (.int .i64 F) ∧ Below W.heap.size W w')) :
    Calls Try.prog 34 #[.agg #[.int .i64 n, E], U] w fun e w' => e = .returned (.bool false) ∧ Below w.heap.size w w' := by
  have HB0 := Lib.hid ((Below.refl w.heap.size w).alloc (Nat.le_refl _) (.cells #[.int .i64 n, E] 24))
  have hne : (F != 0) = true := by rw [bne_iff_ne]; exact hF
  clear hF
  go_enter Try.func34, Try.ntmps34
  go_wp2_with (go_at_call 31; refine (HR.out _ HB0.out).mono ?_; rintro e w1 ⟨rfl, hB⟩; have HB1 := Lib.hid (on_trans HB0.out hB); clear hB HR)
  go_ret
  exact ⟨rfl, HB1.out⟩
set_option maxHeartbeats 2000000 in
theorem redges8_right (n : Int) (a : Option Addr) (m c : Nat) (hm : m ≤ 100000) (l : List Int) (al : Option Addr) (ml cl : Nat) (hl : l.length = ml) (hl1 : ml ≤ 100000) (w : World)
    (HL : Hid (0 < ml → ∃ b off, al = some ⟨b, off, none⟩ ∧ ∀ (j : Nat) x, l[j]? = some x → w.cell? ⟨b, off + j, none⟩ = some (.int .i64 x)))
    (HR : Hid (∀ W, Below w.heap.size w W → Calls Try.prog 31 #[.agg #[.int .i64 n, .slice a m c]] W fun e w' => e = .returned (.int .i64 0) ∧ Below W.heap.size W w')) :
    Calls Try.prog 34 #[.agg #[.int .i64 n, .slice a m c], .slice al ml cl] w fun e w' => e = .returned (.bool (okL m l)) ∧ Below w.heap.size w w' := by
  have HB0 := Lib.hid ((Below.refl w.heap.size w).alloc (Nat.le_refl _) (.cells #[.int .i64 n, .slice a m c] 24))
  have hm1 : (m : Int) ≤ 100000 := by omega
  have hl2 : (ml : Int) ≤ 100000 := by omega
  go_enter Try.func34, Try.ntmps34
  go_wp2_with (go_at_call 31; refine (HR.out _ HB0.out).mono ?_; rintro e w1 ⟨rfl, hB⟩; have b1 := cell_on hB (p := ⟨w.heap.size, 1, none⟩) (v := .slice a m c) (by simp); have HB1 := Lib.hid (on_trans HB0.out hB); clear hB HR)
  have HBr := Lib.hid (Below.refl w1.heap.size w1)
  go_loopw [5] (fun i wr => ∃ k : Nat, k ≤ ml ∧ i = .int .i64 k ∧ Hid (∀ (j : Nat) x, j < k → l[j]? = some x → 0 ≤ x ∧ x < (m : Int)) ∧ Hid (Below w1.heap.size w1 wr)) (fun i _ => ml - (RowKit.intOf i).toNat)
  case atStart => exact ⟨0, by omega, rfl, Lib.hid fun j x h => by omega, HBr⟩
  case round =>
    obtain ⟨k, hk, rfl, HA, HB⟩ := hrel
    have g1 := cell_on HB.out b1
    by_cases hkm : k < ml
    · obtain ⟨b, off, rfl, hc⟩ := HL.out (by omega)
      have hx0 : l[k]? = some (l[k]'(by omega)) := List.getElem?_eq_getElem (by omega)
      obtain ⟨x, hx⟩ : ∃ x, l[k]'(by omega) = x := ⟨_, rfl⟩
      rw [hx] at hx0
      have e0 := cell_on HB.out (cell_on HB1.out (hc k x hx0))
      have hi0 : (0 : Int) ≤ (k : Int) := Int.natCast_nonneg _
      have hi1 : (k : Int) < (ml : Int) := by omega
      by_cases h1 : x < 0
      · have HN := Lib.hid (okL_no (m := m) hx0 (by omega))
        have q1 : decide (x < 0) = true := decide_eq_true h1
        clear hx hx0 hc HL h1 b1
        go_wp2
        go_region
        all_goals go_wp2
        all_goals go_ret
        all_goals exact ⟨by rw [HN.out]; rfl, HB1.out.trans (HB.out.drew.mono HB1.out.size)⟩
      · have q1 : decide (x < 0) = false := decide_eq_false h1
        by_cases h2 : (m : Int) ≤ x
        · have HN := Lib.hid (okL_no (m := m) hx0 (by omega))
          have q2 : decide ((m : Int) ≤ x) = true := decide_eq_true h2
          clear hx hx0 hc HL h1 h2 b1
          go_wp2
          go_region
          all_goals go_wp2
          all_goals go_ret
          all_goals exact ⟨by rw [HN.out]; rfl, HB1.out.trans (HB.out.drew.mono HB1.out.size)⟩
        · have q2 : decide ((m : Int) ≤ x) = false := decide_eq_false h2
          have HN : Hid (∀ (j : Nat) y, j < k + 1 → l[j]? = some y → 0 ≤ y ∧ y < (m : Int)) := Lib.hid fun j y hj hy => by
            by_cases e : j = k
            · subst e
              rw [hx0] at hy
              obtain rfl := Option.some.inj hy
              omega
            · exact HA.out j y (by omega) hy
          clear hx hx0 hc HL h1 h2 b1 HA
          go_wp2
          go_region
          all_goals go_wp2
          all_goals go_roundw
          case rel => exact ⟨k + 1, by omega, by go_num, HN, Lib.hid HB.out.drew⟩
          case measure => simp [RowKit.intOf] <;> omega
    · obtain rfl : k = ml := by omega
      have HN : Hid (okL m l = true) := Lib.hid (okL_yes fun j x hj hx => HA.out j x (by omega) hx)
      go_wp2
      go_ret
      exact ⟨by rw [HN.out]; rfl, HB1.out.trans (HB.out.mono HB1.out.size)⟩
theorem redges8_any (n : Int) {v u : Value} {es : List Ed} {l : List Int} (hl : l.length ≤ 100000) (he : es.length ≤ 100000) (w : World) (h : EdgesAt w v es) (hi : IntsAt w u l) :
    Calls Try.prog 34 #[.agg #[.int .i64 n, v], u] w fun e w' => e = .returned (.bool (edF n es l)) ∧ Below w.heap.size w w' := by
  have HR := Lib.hid (fun W (hB : Below w.heap.size w W) => gright_any n W (h.on hB))
  obtain ⟨a, c, rfl, g⟩ := edgesAt_flat h
  obtain ⟨al, cl, rfl, _, k⟩ := hi
  unfold edF
  by_cases h1 : rightF n es = 0
  · rw [decide_eq_true h1, Bool.true_and]
    rw [h1] at HR
    exact redges8_right n a es.length c he l al l.length cl rfl hl w (Lib.hid k) HR
  · rw [decide_eq_false h1, Bool.false_and]
    exact redges8_no n _ _ _ h1 w HR
end Go.Proofs.Ytifljelphniipaa
