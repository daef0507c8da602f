import Derived.Test.YtifljelphniipaaGraA
set_option linter.unusedVariables false
set_option linter.unusedSimpArgs false
namespace Go.Proofs.Ytifljelphniipaa
open Go.RowKit
def lightB (n : Int) (m : Nat) : Bool := (decide (n ≤ 100) || decide (4096 < n)) && decide (m ≤ 300)
set_option maxHeartbeats 400000 in
theorem light_any (n : Int) (a : Option Addr) (m c : Nat) (w : World) :
    Calls Try.prog 7 #[.agg #[.int .i64 n, .slice a m c]] w fun e w' => e = .returned (.bool (lightB n m)) ∧ Below w.heap.size w w' := by
  have HB := Lib.hid ((Below.refl w.heap.size w).alloc (Nat.le_refl _) (.cells #[.int .i64 n, .slice a m c] 24))
  unfold lightB
  have hm : decide (m ≤ 300) = decide ((m : Int) ≤ 300) := by by_cases h : m ≤ 300 <;> simp [h] <;> omega
  rw [hm]
  by_cases h1 : n ≤ 100
  · by_cases h3 : (m : Int) ≤ 300
    all_goals
      go_enter Try.func7, Try.ntmps7
      go_wp2
      go_ret
      exact ⟨by simp [h1, h3] <;> omega, HB.out⟩
  · by_cases h2 : 4096 < n
    · by_cases h3 : (m : Int) ≤ 300
      all_goals
        go_enter Try.func7, Try.ntmps7
        go_wp2
        go_ret
        exact ⟨by simp [h1, h2, h3] <;> omega, HB.out⟩
    · go_enter Try.func7, Try.ntmps7
      go_wp2
      go_ret
      exact ⟨by simp [h1, h2] <;> omega, HB.out⟩
end Go.Proofs.Ytifljelphniipaa
