import Derived.Test.YtifljelphniipaaGraB
set_option linter.unusedVariables false
set_option linter.unusedSimpArgs false
namespace Go.Proofs.Ytifljelphniipaa
open Go.RowKit
set_option maxHeartbeats 400000 in
theorem pnode_any (n v : Int) (E : Value) (w : World) :
    Calls Try.prog 32 #[.agg #[.int .i64 n, E], .int .i64 v] w fun e w' => e = .returned (.bool (nodeB n v)) ∧ Below w.heap.size w w' := by
  unfold nodeB
  have HB := Lib.hid ((Below.refl w.heap.size w).alloc (Nat.le_refl _) (.cells #[.int .i64 n, E] 24))
  by_cases h1 : 0 ≤ v
  · by_cases h2 : v < n
    · rw [decide_eq_true h1, decide_eq_true h2]
      go_enter Try.func32, Try.ntmps32
      go_wp2
      go_ret
      exact ⟨by simp <;> omega, HB.out⟩
    · rw [decide_eq_true h1, decide_eq_false h2]
      go_enter Try.func32, Try.ntmps32
      go_wp2
      go_ret
      exact ⟨by simp <;> omega, HB.out⟩
  · rw [decide_eq_false h1]
    go_enter Try.func32, Try.ntmps32
    go_wp2
    go_ret
    exact ⟨by simp <;> omega, HB.out⟩
set_option maxHeartbeats 400000 in
theorem pedge_any (n : Int) (a : Option Addr) (m c : Nat) (i : Int) (w : World) :
    Calls Try.prog 43 #[.agg #[.int .i64 n, .slice a m c], .int .i64 i] w fun e w' => e = .returned (.bool (nodeB m i)) ∧ Below w.heap.size w w' := by
  unfold nodeB
  have HB := Lib.hid ((Below.refl w.heap.size w).alloc (Nat.le_refl _) (.cells #[.int .i64 n, .slice a m c] 24))
  by_cases h1 : 0 ≤ i
  · by_cases h2 : i < (m : Int)
    · rw [decide_eq_true h1, decide_eq_true h2]
      go_enter Try.func43, Try.ntmps43
      go_wp2
      go_ret
      exact ⟨by simp <;> omega, HB.out⟩
    · rw [decide_eq_true h1, decide_eq_false h2]
      go_enter Try.func43, Try.ntmps43
      go_wp2
      go_ret
      exact ⟨by simp <;> omega, HB.out⟩
  · rw [decide_eq_false h1]
    go_enter Try.func43, Try.ntmps43
    go_wp2
    go_ret
    exact ⟨by simp <;> omega, HB.out⟩
set_option maxHeartbeats 400000 in
theorem pweight_any (x : Nat) (w : World) :
    Calls Try.prog 54 #[.int .u64 x] w fun e w' => e = .returned (.bool (weightB x)) ∧ w' = w := by
  unfold weightB
  by_cases h1 : 1 ≤ x
  · have hi1 : ((1 : Int) ≤ (x : Int)) := by omega
    by_cases h2 : x ≤ 4294967296
    · have hi2 : decide ((x : Int) ≤ 4294967296) = true := decide_eq_true (by omega)
      rw [decide_eq_true h1, decide_eq_true h2]
      clear h1 h2
      go_enter Try.func54, Try.ntmps54
      go_wp2
      go_ret
      exact ⟨by simp [hi2], rfl⟩
    · have hi2 : decide ((x : Int) ≤ 4294967296) = false := decide_eq_false (by omega)
      rw [decide_eq_true h1, decide_eq_false h2]
      clear h1 h2
      go_enter Try.func54, Try.ntmps54
      go_wp2
      go_ret
      exact ⟨by simp [hi2], rfl⟩
  · have hi1 : ¬ ((1 : Int) ≤ (x : Int)) := by omega
    rw [decide_eq_false h1]
    clear h1
    go_enter Try.func54, Try.ntmps54
    go_wp2
    go_ret
    exact ⟨by simp [hi1], rfl⟩
set_option maxHeartbeats 400000 in
theorem pwrongw_any (f t : Int) (x : Nat) (w : World) :
    Calls Try.prog 53 #[.agg #[.int .i64 f, .int .i64 t, .int .u64 (x : Int)]] w fun e w' => e = .returned (.bool (!weightB x)) ∧ Below w.heap.size w w' := by
  have HB := Lib.hid ((Below.refl w.heap.size w).alloc (Nat.le_refl _) (.cells #[.int .i64 f, .int .i64 t, .int .u64 (x : Int)] 56))
  have HW := Lib.hid (fun W => pweight_any x W)
  generalize weightB x = r at HW ⊢
  go_enter Try.func53, Try.ntmps53
  go_wp2_with (go_at_call 54; refine (HW.out _).mono ?_; rintro e w' ⟨rfl, hw'⟩; obtain rfl := hw'.symm)
  go_ret
  exact ⟨rfl, HB.out⟩
set_option maxHeartbeats 1000000 in
theorem pwronge_any (n f t : Int) (x : Nat) (E : Value) (B : Nat) (w : World) (g0 : w.cell? ⟨B, 0, none⟩ = some (.int .i64 n)) (g1 : w.cell? ⟨B, 1, none⟩ = some E) :
    Calls Try.prog 52 #[.agg #[.int .i64 f, .int .i64 t, .int .u64 (x : Int)], .pointer (some ⟨B, 0, none⟩)] w fun e w' => e = .returned (.bool (!endsB n ⟨f, t, x⟩)) ∧ Below w.heap.size w w' := by
  have hb := (Below.refl w.heap.size w).alloc (Nat.le_refl _) (.cells #[.int .i64 f, .int .i64 t, .int .u64 (x : Int)] 56)
  have c0 := cell_on hb g0
  have c1 := cell_on hb g1
  have d0 : (w.alloc (.cells #[.int .i64 f, .int .i64 t, .int .u64 (x : Int)] 56)).cell? ⟨w.heap.size, 0, none⟩ = some (.int .i64 f) := by simp
  have d1 : (w.alloc (.cells #[.int .i64 f, .int .i64 t, .int .u64 (x : Int)] 56)).cell? ⟨w.heap.size, 1, none⟩ = some (.int .i64 t) := by simp
  have HB := Lib.hid hb
  clear g0 g1 hb
  have HN1 := Lib.hid (fun W => pnode_any n f E W)
  have HN2 := Lib.hid (fun W => pnode_any n t E W)
  unfold endsB
  cases hf : nodeB n f
  · rw [hf] at HN1
    clear hf HN2
    simp only [Bool.false_and, Bool.not_false]
    go_enter Try.func52, Try.ntmps52
    go_wp2_with (go_at_call_of 32 (Value.int .i64 f); refine (HN1.out _).mono ?_; rintro e w1 ⟨rfl, hb1⟩; have c0' := cell_on hb1 c0; have c1' := cell_on hb1 c1; have d0' := cell_on hb1 d0; have d1' := cell_on hb1 d1; have HB1 := Lib.hid (on_trans HB.out hb1); clear hb1 HN1)
    go_ret
    exact ⟨rfl, HB1.out⟩
  · rw [hf] at HN1
    cases ht : nodeB n t
    · rw [ht] at HN2
      clear hf ht
      simp only [Bool.false_and, Bool.and_false, Bool.not_false]
      go_enter Try.func52, Try.ntmps52
      go_wp2_with (first | (go_at_call_of 32 (Value.int .i64 f); refine (HN1.out _).mono ?_; rintro e w1 ⟨rfl, hb1⟩; have c0' := cell_on hb1 c0; have c1' := cell_on hb1 c1; have d0' := cell_on hb1 d0; have d1' := cell_on hb1 d1; have HB1 := Lib.hid (on_trans HB.out hb1); clear hb1 HN1) | (go_at_call_of 32 (Value.int .i64 t); refine (HN2.out _).mono ?_; rintro e w2 ⟨rfl, hb2⟩; have d0'' := cell_on hb2 d0'; have d1'' := cell_on hb2 d1'; have HB2 := Lib.hid (on_trans HB1.out hb2); clear hb2 HN2))
      go_ret
      exact ⟨rfl, HB2.out⟩
    · rw [ht] at HN2
      by_cases hft : f = t
      · have hq : (f == t) = true := by rw [hft]; simp
        have hz : (!(true && (true && decide ((⟨f, t, x⟩ : Ed).f ≠ (⟨f, t, x⟩ : Ed).t)))) = true := by simp [hft]
        rw [hz]
        clear hf ht hft hz
        go_enter Try.func52, Try.ntmps52
        go_wp2_with (first | (go_at_call_of 32 (Value.int .i64 f); refine (HN1.out _).mono ?_; rintro e w1 ⟨rfl, hb1⟩; have c0' := cell_on hb1 c0; have c1' := cell_on hb1 c1; have d0' := cell_on hb1 d0; have d1' := cell_on hb1 d1; have HB1 := Lib.hid (on_trans HB.out hb1); clear hb1 HN1) | (go_at_call_of 32 (Value.int .i64 t); refine (HN2.out _).mono ?_; rintro e w2 ⟨rfl, hb2⟩; have d0'' := cell_on hb2 d0'; have d1'' := cell_on hb2 d1'; have HB2 := Lib.hid (on_trans HB1.out hb2); clear hb2 HN2))
        go_ret
        exact ⟨rfl, HB2.out⟩
      · have hq : (f == t) = false := by rw [beq_eq_false_iff_ne]; exact hft
        have hz : (!(true && (true && decide ((⟨f, t, x⟩ : Ed).f ≠ (⟨f, t, x⟩ : Ed).t)))) = false := by simp [hft]
        rw [hz]
        clear hf ht hft hz
        go_enter Try.func52, Try.ntmps52
        go_wp2_with (first | (go_at_call_of 32 (Value.int .i64 f); refine (HN1.out _).mono ?_; rintro e w1 ⟨rfl, hb1⟩; have c0' := cell_on hb1 c0; have c1' := cell_on hb1 c1; have d0' := cell_on hb1 d0; have d1' := cell_on hb1 d1; have HB1 := Lib.hid (on_trans HB.out hb1); clear hb1 HN1) | (go_at_call_of 32 (Value.int .i64 t); refine (HN2.out _).mono ?_; rintro e w2 ⟨rfl, hb2⟩; have d0'' := cell_on hb2 d0'; have d1'' := cell_on hb2 d1'; have HB2 := Lib.hid (on_trans HB1.out hb2); clear hb2 HN2))
        go_ret
        exact ⟨rfl, HB2.out⟩

end Go.Proofs.Ytifljelphniipaa
