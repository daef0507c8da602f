import Derived.Test.YtifljelphniipaaPthB
set_option linter.unusedVariables false
set_option linter.unusedSimpArgs false
namespace Go.Proofs.Ytifljelphniipaa
open Go.RowKit
attribute [local go_sem ↓] Go.wp_at_zero Go.wp_at_succ
set_option maxHeartbeats 400000 in
theorem pnani (x : Int) (w : World) :
    Calls Try.prog 57 #[.int .i64 x] w fun e w' => e = .returned (.bool false) ∧ w' = w := by
  have q : (x != x) = false := by simp
  go_enter Try.func57, Try.ntmps57
  go_wp2
  go_ret
  exact ⟨by simp, rfl⟩
set_option maxHeartbeats 400000 in
theorem pnanu (x : Nat) (w : World) :
    Calls Try.prog 50 #[.int .u64 (x : Int)] w fun e w' => e = .returned (.bool false) ∧ w' = w := by
  go_enter Try.func50, Try.ntmps50
  go_wp2
  go_ret
  exact ⟨by simp, rfl⟩
/-- How two ints stand. -/
def cmpI (x y : Int) : Int := if x < y then -1 else if y < x then 1 else 0
set_option maxHeartbeats 1000000 in
theorem pcmpi (x y : Int) (w : World) :
    Calls Try.prog 49 #[.int .i64 x, .int .i64 y] w fun e w' => e = .returned (.int .i64 (cmpI x y)) ∧ w' = w := by
  have H1 := Lib.hid (fun W => pnani x W)
  have H2 := Lib.hid (fun W => pnani y W)
  unfold cmpI
  by_cases p1 : x < y
  · have r1 : decide (x < y) = true := decide_eq_true p1
    rw [if_pos p1]
    clear p1
    go_enter Try.func49, Try.ntmps49
    go_wp2_with (first | (go_at_call 57; refine (H1.out _).mono ?_; rintro e w' ⟨rfl, hw'⟩; obtain rfl := hw'.symm; clear H1) | (go_at_call 57; refine (H2.out _).mono ?_; rintro e w' ⟨rfl, hw'⟩; obtain rfl := hw'.symm; clear H2))
    go_ret
    exact ⟨rfl, rfl⟩
  · have r1 : decide (x < y) = false := decide_eq_false p1
    rw [if_neg p1]
    by_cases p2 : y < x
    · have r2 : decide (y < x) = true := decide_eq_true p2
      rw [if_pos p2]
      clear p1 p2
      go_enter Try.func49, Try.ntmps49
      go_wp2_with (first | (go_at_call 57; refine (H1.out _).mono ?_; rintro e w' ⟨rfl, hw'⟩; obtain rfl := hw'.symm; clear H1) | (go_at_call 57; refine (H2.out _).mono ?_; rintro e w' ⟨rfl, hw'⟩; obtain rfl := hw'.symm; clear H2))
      go_ret
      exact ⟨rfl, rfl⟩
    · have r2 : decide (y < x) = false := decide_eq_false p2
      rw [if_neg p2]
      clear p1 p2
      go_enter Try.func49, Try.ntmps49
      go_wp2_with (first | (go_at_call 57; refine (H1.out _).mono ?_; rintro e w' ⟨rfl, hw'⟩; obtain rfl := hw'.symm; clear H1) | (go_at_call 57; refine (H2.out _).mono ?_; rintro e w' ⟨rfl, hw'⟩; obtain rfl := hw'.symm; clear H2))
      go_ret
      exact ⟨rfl, rfl⟩
set_option maxHeartbeats 1000000 in
theorem pcmpu (x y : Nat) (w : World) :
    Calls Try.prog 39 #[.int .u64 (x : Int), .int .u64 (y : Int)] w fun e w' => e = .returned (.int .i64 (if x < y then -1 else if y < x then 1 else 0)) ∧ w' = w := by
  have H1 := Lib.hid (fun W => pnanu x W)
  have H2 := Lib.hid (fun W => pnanu y W)
  by_cases p1 : x < y
  · have r1 : decide ((x : Int) < (y : Int)) = true := decide_eq_true (by omega)
    have r1' : decide (x < y) = true := decide_eq_true p1
    rw [if_pos p1]
    clear p1
    go_enter Try.func39, Try.ntmps39
    go_wp2_with (first | (go_at_call 50; refine (H1.out _).mono ?_; rintro e w' ⟨rfl, hw'⟩; obtain rfl := hw'.symm; clear H1) | (go_at_call 50; refine (H2.out _).mono ?_; rintro e w' ⟨rfl, hw'⟩; obtain rfl := hw'.symm; clear H2))
    go_ret
    exact ⟨rfl, rfl⟩
  · have r1 : decide ((x : Int) < (y : Int)) = false := decide_eq_false (by omega)
    have r1' : decide (x < y) = false := decide_eq_false p1
    rw [if_neg p1]
    by_cases p2 : y < x
    · have r2 : decide ((y : Int) < (x : Int)) = true := decide_eq_true (by omega)
      have r2' : decide (y < x) = true := decide_eq_true p2
      rw [if_pos p2]
      clear p1 p2
      go_enter Try.func39, Try.ntmps39
      go_wp2_with (first | (go_at_call 50; refine (H1.out _).mono ?_; rintro e w' ⟨rfl, hw'⟩; obtain rfl := hw'.symm; clear H1) | (go_at_call 50; refine (H2.out _).mono ?_; rintro e w' ⟨rfl, hw'⟩; obtain rfl := hw'.symm; clear H2))
      go_ret
      exact ⟨rfl, rfl⟩
    · have r2 : decide ((y : Int) < (x : Int)) = false := decide_eq_false (by omega)
      have r2' : decide (y < x) = false := decide_eq_false p2
      rw [if_neg p2]
      clear p1 p2
      go_enter Try.func39, Try.ntmps39
      go_wp2_with (first | (go_at_call 50; refine (H1.out _).mono ?_; rintro e w' ⟨rfl, hw'⟩; obtain rfl := hw'.symm; clear H1) | (go_at_call 50; refine (H2.out _).mono ?_; rintro e w' ⟨rfl, hw'⟩; obtain rfl := hw'.symm; clear H2))
      go_ret
      exact ⟨rfl, rfl⟩
end Go.Proofs.Ytifljelphniipaa
