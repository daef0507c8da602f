import Derived.Test.YtifljelphniipaaPthA
set_option linter.unusedVariables false
set_option linter.unusedSimpArgs false
namespace Go.Proofs.Ytifljelphniipaa
open Go.RowKit
attribute [local go_sem ↓] Go.wp_at_zero Go.wp_at_succ
/-- Is a number among them? -/
def hasB (l : List Int) (v : Int) : Bool := l.any fun x => decide (x = v)
theorem hasB_iff (l : List Int) (v : Int) : hasB l v = true ↔ v ∈ l := by
  unfold hasB
  rw [List.any_eq_true]
  exact ⟨fun ⟨x, hx, h⟩ => by have := of_decide_eq_true h; rwa [← this], fun h => ⟨v, h, by simp⟩⟩
set_option maxHeartbeats 1000000 in
theorem has_some (l : List Int) (a : Option Addr) (m c : Nat) (v : Int) (hm : l.length = m) (hm1 : m ≤ 1000000) (w : World)
    (HC : Hid (0 < m → ∃ b off, a = some ⟨b, off, none⟩ ∧ ∀ (j : Nat) x, l[j]? = some x → w.cell? ⟨b, off + j, none⟩ = some (.int .i64 x))) :
    Calls Try.prog 35 #[.slice a m c, .int .i64 v] w fun e w' => e = .returned (.bool (hasB l v)) ∧ w' = w := by
  have hm2 : (m : Int) ≤ 1000000 := by omega
  go_enter Try.func35, Try.ntmps35
  go_wp2
  go_loop [5] (fun i => ∃ k : Nat, k ≤ m ∧ i = .int .i64 k ∧ Hid (∀ (j : Nat) x, j < k → l[j]? = some x → x ≠ v)) (fun i => m - (RowKit.intOf i).toNat)
  case atStart => exact ⟨0, by omega, rfl, Lib.hid fun j x h => by omega⟩
  case round =>
    obtain ⟨k, hk, rfl, HA⟩ := hrel
    by_cases hkm : k < m
    · obtain ⟨b, off, rfl, hc⟩ := HC.out (by omega)
      have hx0 : l[k]? = some (l[k]'(by omega)) := List.getElem?_eq_getElem (by omega)
      obtain ⟨x, hx⟩ : ∃ x, l[k]'(by omega) = x := ⟨_, rfl⟩
      rw [hx] at hx0
      have e0 := hc k x hx0
      have hi0 : (0 : Int) ≤ (k : Int) := Int.natCast_nonneg _
      have hi1 : (k : Int) < (m : Int) := by omega
      by_cases h1 : x = v
      · subst h1
        have HN : Hid (hasB l x = true) := Lib.hid ((hasB_iff l x).2 (List.mem_of_getElem? hx0))
        clear hx hx0 hc HC
        go_wp2
        go_ret
        exact ⟨by rw [HN.out]; rfl, rfl⟩
      · have q1 : (x == v) = false := by rw [beq_eq_false_iff_ne]; exact h1
        have HN : Hid (∀ (j : Nat) y, j < k + 1 → l[j]? = some y → y ≠ v) := Lib.hid fun j y hj hy => by
          by_cases e : j = k
          · subst e
            rw [hx0] at hy
            obtain rfl := Option.some.inj hy
            exact h1
          · exact HA.out j y (by omega) hy
        clear hx hx0 hc HC h1 HA
        go_wp2
        go_round
        case rel => exact ⟨k + 1, by omega, by go_num, HN⟩
        case measure => simp [RowKit.intOf] <;> omega
    · obtain rfl : k = m := by omega
      have HN : Hid (hasB l v = false) := Lib.hid (by
        cases h : hasB l v
        · rfl
        · obtain ⟨i, hi, e⟩ := List.getElem_of_mem ((hasB_iff l v).1 h)
          exact absurd e (HA.out i _ (by omega) (List.getElem?_eq_getElem hi)))
      go_wp2
      go_ret
      exact ⟨by rw [HN.out]; rfl, rfl⟩
/-- How two lists stand. -/
def lessF : List Int → List Int → Int
  | [], [] => 0
  | [], _ :: _ => -1
  | _ :: _, [] => 1
  | a :: x, b :: y => if a < b then -1 else if b < a then 1 else lessF x y
theorem lessF_drop {xs ys : List Int} {k : Nat} {x y : Int} (hx : xs[k]? = some x) (hy : ys[k]? = some y) : lessF (xs.drop k) (ys.drop k) = if x < y then -1 else if y < x then 1 else lessF (xs.drop (k + 1)) (ys.drop (k + 1)) := by
  obtain ⟨h1, rfl⟩ := List.getElem?_eq_some_iff.1 hx
  obtain ⟨h2, rfl⟩ := List.getElem?_eq_some_iff.1 hy
  rw [List.drop_eq_getElem_cons h1, List.drop_eq_getElem_cons h2]
  rfl
theorem lessF_end {xs ys : List Int} {k : Nat} (hk1 : k ≤ xs.length) (hk2 : k ≤ ys.length) (h : k = xs.length ∨ k = ys.length) : lessF (xs.drop k) (ys.drop k) = if xs.length < ys.length then -1 else if ys.length < xs.length then 1 else 0 := by
  rcases h with rfl | rfl
  · rw [List.drop_length]
    by_cases h1 : xs.length < ys.length
    · rw [if_pos h1, List.drop_eq_getElem_cons h1]; rfl
    · rw [if_neg h1, if_neg (by omega), List.drop_of_length_le (by omega)]; rfl
  · rw [List.drop_length]
    by_cases h1 : ys.length < xs.length
    · rw [if_neg (by omega), if_pos h1, List.drop_eq_getElem_cons h1]; rfl
    · rw [if_neg (by omega), if_neg h1, List.drop_of_length_le (by omega)]; rfl
def Ints (l : List Int) (a : Option Addr) (m : Nat) (w : World) : Prop := 0 < m → ∃ b off, a = some ⟨b, off, none⟩ ∧ ∀ (j : Nat) x, l[j]? = some x → w.cell? ⟨b, off + j, none⟩ = some (.int .i64 x)
theorem Ints.on {l : List Int} {a : Option Addr} {m : Nat} {w w1 : World} (h : Ints l a m w) (hb : Below w.heap.size w w1) : Ints l a m w1 := fun h0 => by
  obtain ⟨b, off, e, hc⟩ := h h0
  exact ⟨b, off, e, fun j x hx => cell_on hb (hc j x hx)⟩
set_option maxHeartbeats 2000000 in
theorem rless8_some (xs ys : List Int) (a1 a2 : Option Addr) (m1 m2 c1 c2 : Nat) (h1 : xs.length = m1) (h2 : ys.length = m2) (l1 : m1 ≤ 1000000) (l2 : m2 ≤ 1000000) (w : World) (HX : Hid (Ints xs a1 m1 w)) (HY : Hid (Ints ys a2 m2 w)) :
    Calls Try.prog 23 #[.slice a1 m1 c1, .slice a2 m2 c2] w fun e w' => e = .returned (.int .i64 (lessF xs ys)) ∧ Below w.heap.size w w' := by
  have l3 : (m1 : Int) ≤ 1000000 := by omega
  have l4 : (m2 : Int) ≤ 1000000 := by omega
  have HB0 := Lib.hid (Below.refl w.heap.size w)
  go_enter Try.func23, Try.ntmps23
  go_wp2
  go_loopw [5] (fun i wr => ∃ k : Nat, k ≤ m1 ∧ k ≤ m2 ∧ i = .int .i64 k ∧ Hid (lessF xs ys = lessF (xs.drop k) (ys.drop k)) ∧ Hid (Below w.heap.size w wr)) (fun i _ => m1 - (RowKit.intOf i).toNat)
  case atStart => exact ⟨0, by omega, by omega, rfl, Lib.hid rfl, HB0⟩
  case round =>
    obtain ⟨k, hk1, hk2, rfl, HA, HB⟩ := hrel
    have hi0 : (0 : Int) ≤ (k : Int) := Int.natCast_nonneg _
    by_cases hkm : k < m1
    · have q1 : decide ((k : Int) < (m1 : Int)) = true := decide_eq_true (by omega)
      have q1' : decide (k < m1) = true := decide_eq_true hkm
      by_cases hkn : k < m2
      · have q2 : decide ((k : Int) < (m2 : Int)) = true := decide_eq_true (by omega)
        have q2' : decide (k < m2) = true := decide_eq_true hkn
        have hi1 : (k : Int) < (m1 : Int) := by omega
        have hi2 : (k : Int) < (m2 : Int) := by omega
        obtain ⟨b1, o1, rfl, g1⟩ := HX.out (by omega)
        obtain ⟨b2, o2, rfl, g2⟩ := HY.out (by omega)
        have hx0 : xs[k]? = some (xs[k]'(by omega)) := List.getElem?_eq_getElem (by omega)
        have hy0 : ys[k]? = some (ys[k]'(by omega)) := List.getElem?_eq_getElem (by omega)
        obtain ⟨x, hx⟩ : ∃ x, xs[k]'(by omega) = x := ⟨_, rfl⟩
        obtain ⟨y, hy⟩ : ∃ y, ys[k]'(by omega) = y := ⟨_, rfl⟩
        rw [hx] at hx0
        rw [hy] at hy0
        have e1 := cell_on HB.out (g1 k x hx0)
        have e2 := cell_on HB.out (g2 k y hy0)
        have HS := lessF_drop hx0 hy0
        by_cases p1 : x < y
        · have r1 : decide (x < y) = true := decide_eq_true p1
          have HN : Hid (lessF xs ys = -1) := Lib.hid (by rw [HA.out, HS, if_pos p1])
          clear hx hy hx0 hy0 g1 g2 HX HY HS p1 HA
          go_wp2
          go_region
          all_goals go_wp2
          all_goals go_ret
          all_goals exact ⟨by rw [HN.out]; rfl, HB.out.drew⟩
        · have r1 : decide (x < y) = false := decide_eq_false p1
          by_cases p2 : y < x
          · have r2 : decide (y < x) = true := decide_eq_true p2
            have HN : Hid (lessF xs ys = 1) := Lib.hid (by rw [HA.out, HS, if_neg p1, if_pos p2])
            clear hx hy hx0 hy0 g1 g2 HX HY HS p1 p2 HA
            go_wp2
            go_region
            all_goals go_wp2
            all_goals go_region
            all_goals go_wp2
            all_goals go_ret
            all_goals exact ⟨by rw [HN.out]; rfl, HB.out.drew.drew⟩
          · have r2 : decide (y < x) = false := decide_eq_false p2
            have HN : Hid (lessF xs ys = lessF (xs.drop (k + 1)) (ys.drop (k + 1))) := Lib.hid (by rw [HA.out, HS, if_neg p1, if_neg p2])
            clear hx hy hx0 hy0 g1 g2 HX HY HS p1 p2 HA
            go_wp2
            go_region
            all_goals go_wp2
            all_goals go_region
            all_goals go_wp2
            all_goals go_roundw
            case rel => exact ⟨k + 1, by omega, by omega, by go_num, HN, Lib.hid HB.out.drew.drew⟩
            case measure => simp [RowKit.intOf] <;> omega
      · obtain rfl : k = m2 := by omega
        have q2 : decide ((k : Int) < (k : Int)) = false := decide_eq_false (by omega)
        have q2' : decide (k < k) = false := decide_eq_false (by omega)
        have q3 : decide ((m1 : Int) < (k : Int)) = false := decide_eq_false (by omega)
        have q3' : decide (m1 < k) = false := decide_eq_false (by omega)
        have HN : Hid (lessF xs ys = 1) := Lib.hid (by rw [HA.out, lessF_end (by omega) (by omega) (.inr h2.symm), if_neg (by omega), if_pos (by omega)])
        clear HA HX HY
        go_wp2
        go_ret
        exact ⟨by rw [HN.out]; rfl, HB.out⟩
    · obtain rfl : k = m1 := by omega
      have q1 : decide ((k : Int) < (k : Int)) = false := decide_eq_false (by omega)
      have q1' : decide (k < k) = false := decide_eq_false (by omega)
      have HE := lessF_end (xs := xs) (ys := ys) (k := k) (by omega) (by omega) (.inl h1.symm)
      by_cases hkn : k < m2
      · have q2 : decide ((k : Int) < (m2 : Int)) = true := decide_eq_true (by omega)
        have q2' : decide (k < m2) = true := decide_eq_true hkn
        have HN : Hid (lessF xs ys = -1) := Lib.hid (by rw [HA.out, HE, if_pos (by omega)])
        clear HA HX HY HE
        go_wp2
        go_ret
        exact ⟨by rw [HN.out]; rfl, HB.out⟩
      · obtain rfl : k = m2 := by omega
        have HN : Hid (lessF xs ys = 0) := Lib.hid (by rw [HA.out, HE, if_neg (by omega), if_neg (by omega)])
        clear HA HX HY HE
        go_wp2
        go_ret
        exact ⟨by rw [HN.out]; rfl, HB.out⟩
/-- Routes. -/
def cmpF (x : Nat) (xs : List Int) (y : Nat) (ys : List Int) : Int := if x < y then -1 else if y < x then 1 else lessF xs ys
set_option maxHeartbeats 1000000 in
theorem rcmp8_some (x y : Nat) (xs ys : List Int) (a1 a2 : Option Addr) (m1 m2 c1 c2 : Nat) (h1 : xs.length = m1) (h2 : ys.length = m2) (l1 : m1 ≤ 1000000) (l2 : m2 ≤ 1000000) (w : World) (HX : Hid (Ints xs a1 m1 w)) (HY : Hid (Ints ys a2 m2 w)) :
    Calls Try.prog 25 #[.agg #[.slice a1 m1 c1, .int .u64 (x : Int)], .agg #[.slice a2 m2 c2, .int .u64 (y : Int)]] w fun e w' => e = .returned (.int .i64 (cmpF x xs y ys)) ∧ Below w.heap.size w w' := by
  have hbA := (Below.refl w.heap.size w).alloc (Nat.le_refl _) (.cells #[.slice a1 m1 c1, .int .u64 (x : Int)] 40)
  have HB := Lib.hid (hbA.alloc hbA.size (.cells #[.slice a2 m2 c2, .int .u64 (y : Int)] 40))
  have HL := Lib.hid (fun W (hb : Below w.heap.size w W) => rless8_some xs ys a1 a2 m1 m2 c1 c2 h1 h2 l1 l2 W (Lib.hid (HX.out.on hb)) (Lib.hid (HY.out.on hb)))
  clear hbA HX HY
  unfold cmpF
  by_cases p1 : x < y
  · have r1 : decide ((x : Int) < (y : Int)) = true := decide_eq_true (by omega)
    have r1' : decide (x < y) = true := decide_eq_true p1
    rw [if_pos p1]
    clear p1 HL
    go_enter Try.func25, Try.ntmps25
    go_wp2
    go_ret
    exact ⟨rfl, HB.out⟩
  · have r1 : decide ((x : Int) < (y : Int)) = false := decide_eq_false (by omega)
    have r1' : decide (x < y) = false := decide_eq_false p1
    by_cases p2 : y < x
    · have r2 : decide ((y : Int) < (x : Int)) = true := decide_eq_true (by omega)
      have r2' : decide (y < x) = true := decide_eq_true p2
      rw [if_neg p1, if_pos p2]
      clear p1 p2 HL
      go_enter Try.func25, Try.ntmps25
      go_wp2
      go_ret
      exact ⟨rfl, HB.out⟩
    · have r2 : decide ((y : Int) < (x : Int)) = false := decide_eq_false (by omega)
      have r2' : decide (y < x) = false := decide_eq_false p2
      rw [if_neg p1, if_neg p2]
      clear p1 p2
      go_enter Try.func25, Try.ntmps25
      go_wp2_with (go_at_call 23; refine (HL.out _ HB.out).mono ?_; rintro e w1 ⟨rfl, hB⟩; have HB1 := Lib.hid (on_trans HB.out hB); clear hB HL)
      go_ret
      exact ⟨rfl, HB1.out⟩
end Go.Proofs.Ytifljelphniipaa
