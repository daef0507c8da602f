import Derived.Test.YtifljelphniipaaPthZa
set_option linter.unusedVariables false
set_option linter.unusedSimpArgs false
namespace Go.Proofs.Ytifljelphniipaa
open Go.RowKit
attribute [local go_sem ↓] Go.wp_at_zero Go.wp_at_succ
set_option maxHeartbeats 2000000 in
theorem pcompare_some (xs ys : List Int) (a1 a2 : Option Addr) (m1 m2 c1 c2 : Nat) (h1 : xs.length = m1) (h2 : ys.length = m2) (l1 : m1 ≤ 1000000) (l2 : m2 ≤ 1000000) (w : World) (HX : Hid (Ints xs a1 m1 w)) (HY : Hid (Ints ys a2 m2 w)) :
    Calls Try.prog 37 #[.slice a1 m1 c1, .slice a2 m2 c2] w fun e w' => e = .returned (.int .i64 (lessF xs ys)) ∧ Below w.heap.size w w' := by
  have l3 : (m1 : Int) ≤ 1000000 := by omega
  have l4 : (m2 : Int) ≤ 1000000 := by omega
  have HB0 := Lib.hid (Below.refl w.heap.size w)
  go_enter Try.func37, Try.ntmps37
  go_wp2
  go_loopw [11] (fun i wr => ∃ k : Nat, k ≤ m1 ∧ k ≤ m2 ∧ i = .int .i64 k ∧ Hid (lessF xs ys = lessF (xs.drop k) (ys.drop k)) ∧ Hid (Below w.heap.size w wr)) (fun i _ => m1 - (RowKit.intOf i).toNat)
  case atStart => exact ⟨0, by omega, by omega, rfl, Lib.hid rfl, HB0⟩
  case round =>
    obtain ⟨k, hk1, hk2, rfl, HA, HB⟩ := hrel
    have hi0 : (0 : Int) ≤ (k : Int) := Int.natCast_nonneg _
    by_cases hkm : k < m1
    · have q1 : decide ((k : Int) < (m1 : Int)) = true := decide_eq_true (by omega)
      have q1' : decide (k < m1) = true := decide_eq_true hkm
      obtain ⟨b1, o1, rfl, g1⟩ := HX.out (by omega)
      have hx0 : xs[k]? = some (xs[k]'(by omega)) := List.getElem?_eq_getElem (by omega)
      obtain ⟨x, hx⟩ : ∃ x, xs[k]'(by omega) = x := ⟨_, rfl⟩
      rw [hx] at hx0
      have e1 := cell_on HB.out (g1 k x hx0)
      have hi1 : (k : Int) < (m1 : Int) := by omega
      by_cases hkn : k < m2
      · have q2 : decide ((m2 : Int) ≤ (k : Int)) = false := decide_eq_false (by omega)
        have q2' : decide (m2 ≤ k) = false := decide_eq_false (by omega)
        have hi2 : (k : Int) < (m2 : Int) := by omega
        obtain ⟨b2, o2, rfl, g2⟩ := HY.out (by omega)
        have hy0 : ys[k]? = some (ys[k]'(by omega)) := List.getElem?_eq_getElem (by omega)
        obtain ⟨y, hy⟩ : ∃ y, ys[k]'(by omega) = y := ⟨_, rfl⟩
        rw [hy] at hy0
        have e2 := cell_on HB.out (g2 k y hy0)
        have HS := lessF_drop hx0 hy0
        have HC := Lib.hid (fun W => pcmpi x y W)
        have HJ : Hid (lessF xs ys = if cmpI x y = 0 then lessF (xs.drop (k + 1)) (ys.drop (k + 1)) else cmpI x y) := Lib.hid (by
          rw [HA.out, HS]
          unfold cmpI
          by_cases p1 : x < y
          · simp [p1]
          · by_cases p2 : y < x
            · simp [p1, p2]
            · simp [p1, p2])
        generalize cmpI x y = z at HC HJ
        by_cases hz : z = 0
        · subst hz
          have HN : Hid (lessF xs ys = lessF (xs.drop (k + 1)) (ys.drop (k + 1))) := Lib.hid (by rw [HJ.out, if_pos rfl])
          clear hx hy hx0 hy0 g1 g2 HX HY HS HA HJ
          go_wp2_with (go_at_call 49; refine (HC.out _).mono ?_; rintro e w' ⟨rfl, hw'⟩; obtain rfl := hw'.symm; clear HC)
          go_roundw
          case rel => exact ⟨k + 1, by omega, by omega, by go_num, HN, HB⟩
          case measure => simp [RowKit.intOf] <;> omega
        · have r1 : (z != 0) = true := by rw [bne_iff_ne]; exact hz
          have HN : Hid (lessF xs ys = z) := Lib.hid (by rw [HJ.out, if_neg hz])
          clear hx hy hx0 hy0 g1 g2 HX HY HS HA HJ hz
          go_wp2_with (go_at_call 49; refine (HC.out _).mono ?_; rintro e w' ⟨rfl, hw'⟩; obtain rfl := hw'.symm; clear HC)
          go_ret
          exact ⟨by rw [HN.out]; rfl, HB.out⟩
      · obtain rfl : k = m2 := by omega
        have q2 : decide ((k : Int) ≤ (k : Int)) = true := decide_eq_true (by omega)
        have q2' : decide (k ≤ k) = true := decide_eq_true (by omega)
        have HN : Hid (lessF xs ys = 1) := Lib.hid (by rw [HA.out, lessF_end (by omega) (by omega) (.inr h2.symm), if_neg (by omega), if_pos (by omega)])
        clear HA HX HY g1 hx hx0
        go_wp2
        go_ret
        exact ⟨by rw [HN.out]; rfl, HB.out⟩
    · obtain rfl : k = m1 := by omega
      have q1 : decide ((k : Int) < (k : Int)) = false := decide_eq_false (by omega)
      have q1' : decide (k < k) = false := decide_eq_false (by omega)
      have HE := lessF_end (xs := xs) (ys := ys) (k := k) (by omega) (by omega) (.inl h1.symm)
      by_cases hkn : k < m2
      · have q2 : decide ((k : Int) < (m2 : Int)) = true := decide_eq_true (by omega)
        have q2' : decide (k < m2) = true := decide_eq_true hkn
        have HN : Hid (lessF xs ys = -1) := Lib.hid (by rw [HA.out, HE, if_pos (by omega)])
        clear HA HX HY HE
        go_wp2
        go_ret
        exact ⟨by rw [HN.out]; rfl, HB.out⟩
      · obtain rfl : k = m2 := by omega
        have HN : Hid (lessF xs ys = 0) := Lib.hid (by rw [HA.out, HE, if_neg (by omega), if_neg (by omega)])
        clear HA HX HY HE
        go_wp2
        go_ret
        exact ⟨by rw [HN.out]; rfl, HB.out⟩
set_option maxHeartbeats 400000 in
theorem pless_some (xs ys : List Int) (a1 a2 : Option Addr) (m1 m2 c1 c2 : Nat) (h1 : xs.length = m1) (h2 : ys.length = m2) (l1 : m1 ≤ 1000000) (l2 : m2 ≤ 1000000) (w : World) (HX : Hid (Ints xs a1 m1 w)) (HY : Hid (Ints ys a2 m2 w)) :
    Calls Try.prog 22 #[.slice a1 m1 c1, .slice a2 m2 c2] w fun e w' => e = .returned (.int .i64 (lessF xs ys)) ∧ Below w.heap.size w w' := by
  have HC := Lib.hid (pcompare_some xs ys a1 a2 m1 m2 c1 c2 h1 h2 l1 l2 w HX HY)
  generalize lessF xs ys = z at HC ⊢
  clear HX HY
  go_enter Try.func22, Try.ntmps22
  go_wp2_with (go_at_call 37; refine HC.out.mono ?_; rintro e w1 ⟨rfl, hB⟩; have HB1 := Lib.hid hB; clear hB HC)
  go_ret
  exact ⟨rfl, HB1.out⟩
theorem cmpF_or (x : Nat) (xs : List Int) (y : Nat) (ys : List Int) : cmpF x xs y ys = if (if x < y then (-1 : Int) else if y < x then 1 else 0) = 0 then lessF xs ys else (if x < y then -1 else if y < x then 1 else 0) := by
  unfold cmpF
  by_cases p1 : x < y
  · simp [p1]
  · by_cases p2 : y < x
    · simp [p1, p2]
    · simp [p1, p2]
set_option maxHeartbeats 1000000 in
/-- cmp.Or of two: the first that is not zero, or zero. -/
theorem por_two (p q : Int) (b : Nat) (w : World) (g0 : w.cell? ⟨b, 0, none⟩ = some (.int .i64 p)) (g1 : w.cell? ⟨b, 1, none⟩ = some (.int .i64 q)) :
    Calls Try.prog 38 #[.slice (some ⟨b, 0, none⟩) 2 2] w fun e w' => e = .returned (.int .i64 (if p = 0 then q else p)) ∧ Below w.heap.size w w' := by
  have HB0 := Lib.hid (Below.refl w.heap.size w)
  by_cases hp : p = 0
  · subst hp
    rw [if_pos rfl]
    by_cases hq : q = 0
    · subst hq
      go_enter Try.func38, Try.ntmps38
      go_wp2
      refine wp_loop_rounds 3 ?_
      rw [rounds_succ]
      go_wp2
      rw [rounds_succ]
      go_wp2
      rw [rounds_succ]
      go_wp2
      go_ret
      exact ⟨rfl, HB0.out⟩
    · have r1 : (q != 0) = true := by rw [bne_iff_ne]; exact hq
      clear hq
      go_enter Try.func38, Try.ntmps38
      go_wp2
      refine wp_loop_rounds 2 ?_
      rw [rounds_succ]
      go_wp2
      rw [rounds_succ]
      go_wp2
      go_ret
      exact ⟨rfl, HB0.out⟩
  · have r1 : (p != 0) = true := by rw [bne_iff_ne]; exact hp
    rw [if_neg hp]
    clear hp
    go_enter Try.func38, Try.ntmps38
    go_wp2
    refine wp_loop_rounds 1 ?_
    rw [rounds_succ]
    go_wp2
    go_ret
    exact ⟨rfl, HB0.out⟩
end Go.Proofs.Ytifljelphniipaa
