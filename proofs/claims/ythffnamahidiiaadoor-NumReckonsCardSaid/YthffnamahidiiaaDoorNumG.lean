import Derived.Test.YthffnamahidiiaaDoorNumE
set_option linter.unusedVariables false
namespace Go.Proofs.YthffnamahidiiaaDoor
open Go.RowKit Go.Sort Go.Lib
def tot (g : Nat → Nat) : Nat → Nat
  | 0 => 0
  | k + 1 => tot g k + g k
theorem tot_mono (g : Nat → Nat) {j k : Nat} (h : j ≤ k) : tot g j ≤ tot g k := by
  induction k with
  | zero => obtain rfl : j = 0 := by omega
            exact Nat.le_refl _
  | succ k ih =>
    by_cases e : j = k + 1
    · subst e; exact Nat.le_refl _
    · exact Nat.le_trans (ih (by omega)) (by show tot g k ≤ tot g k + g k; omega)
theorem tot_over {g : Nat → Nat} {k len : Nat} (hk : k < len) (h : ¬ tot g k + g k < 18446744073709551616) : cutV (tot g len) = 0 ∧ cutF (tot g len) = 6 := by
  have h' : ¬ tot g len < 18446744073709551616 := fun x => h (Nat.lt_of_le_of_lt (tot_mono g (show k + 1 ≤ len by omega)) x)
  exact ⟨cutV_no h', cutF_no h'⟩
set_option maxHeartbeats 1000000 in
theorem sum_some (b off len cap : Nat) (g : Nat → Nat) (hg : ∀ j, g j < 18446744073709551616) (hlen : len ≤ 9223372036854775807) (w : World) (hc : ∀ j, j < len → w.cell? ⟨b, off + j, none⟩ = some (.int .u64 (g j : Nat))) :
    Calls Tryd.prog 17 #[.slice (some ⟨b, off, none⟩) len cap] w fun e w' => e = .returned (.tuple #[.int .u64 (cutV (tot g len) : Nat), .int .i64 (cutF (tot g len))]) ∧ w' = w := by
  have HC := Lib.hid hc
  have HG := Lib.hid hg
  clear hc hg
  go_enter Tryd.func17, Tryd.ntmps17
  go_wp2
  go_loop [4, 5, 10] (fun v f i => ∃ k n : Nat, k ≤ len ∧ n < 18446744073709551616 ∧ i = .int .i64 k ∧ v = .int .u64 n ∧ f = .int .i64 0 ∧ Hid (n = tot g k)) (fun _ _ i => len - (RowKit.intOf i).toNat)
  case atStart => exact ⟨0, 0, Nat.zero_le _, by omega, rfl, rfl, rfl, rfl⟩
  case round =>
    obtain ⟨k, n, hk, hn, rfl, rfl, rfl, HN⟩ := hrel
    by_cases hlt : k < len
    · have hcell := HC.out k hlt
      have hgk := HG.out k
      have HA := Lib.hid (add_any n (g k) hn hgk)
      by_cases hs : n + g k < 18446744073709551616
      · have e1 : (cutF (n + g k) != 0) = false := by rw [cutF_yes hs]; rfl
        have E2 := Lib.hid (cutF_yes hs)
        have E3 := Lib.hid (cutV_yes hs)
        go_wp2_with (go_at_call 8; refine (HA.out _).mono ?_; rintro e w' ⟨rfl, rfl⟩)
        go_round
        case rel => exact ⟨k + 1, n + g k, by omega, hs, by go_num, by rw [E3.out], by rw [E2.out], by rw [HN.out]; rfl⟩
        case measure => simp [RowKit.intOf]; omega
      · have e1 : (cutF (n + g k) != 0) = true := by rw [cutF_no hs]; rfl
        have E2 := Lib.hid (cutF_no hs)
        have HO := Lib.hid (tot_over hlt (g := g) (by rw [← HN.out]; exact hs))
        go_wp2_with (go_at_call 8; refine (HA.out _).mono ?_; rintro e w' ⟨rfl, rfl⟩)
        go_ret2
        exact ⟨ret_pair (by rw [HO.out.1]; rfl) (by rw [HO.out.2, E2.out]), rfl⟩
    · obtain rfl : k = len := by omega
      have E1 := Lib.hid (cutV_yes hn)
      have E2 := Lib.hid (cutF_yes hn)
      go_wp2
      go_ret2
      exact ⟨ret_pair (by rw [← HN.out, E1.out]) (by rw [← HN.out, E2.out]), rfl⟩
theorem sum_none (a : Option Addr) (cap : Nat) (w : World) :
    Calls Tryd.prog 17 #[.slice a 0 cap] w fun e w' => e = .returned (.tuple #[.int .u64 0, .int .i64 0]) ∧ w' = w := by
  go_enter Tryd.func17, Tryd.ntmps17
  go_wp2
  go_loop [4, 5, 10] (fun v f i => i = .int .i64 0 ∧ v = .int .u64 0 ∧ f = .int .i64 0) (fun _ _ _ => 0)
  case atStart => exact ⟨rfl, rfl, rfl⟩
  case round =>
    obtain ⟨rfl, rfl, rfl⟩ := hrel
    go_wp2
    go_ret2
    exact ⟨rfl, rfl⟩
set_option maxHeartbeats 1000000 in
theorem rsum_some (b off len cap : Nat) (g : Nat → Nat) (hg : ∀ j, g j < 18446744073709551616) (hlen : len ≤ 9223372036854775807) (w : World) (hc : ∀ j, j < len → w.cell? ⟨b, off + j, none⟩ = some (.int .u64 (g j : Nat))) :
    Calls Tryd.prog 18 #[.slice (some ⟨b, off, none⟩) len cap] w fun e w' => e = .returned (.tuple #[.int .u64 (cutV (tot g len) : Nat), .int .i64 (cutF (tot g len))]) ∧ w' = w := by
  have HC := Lib.hid hc
  have HG := Lib.hid hg
  clear hc hg
  go_enter Tryd.func18, Tryd.ntmps18
  go_wp2
  go_loop [4, 5] (fun v i => ∃ k n : Nat, k ≤ len ∧ n < 18446744073709551616 ∧ i = .int .i64 k ∧ v = .int .u64 n ∧ Hid (n = tot g k)) (fun _ i => len - (RowKit.intOf i).toNat)
  case atStart => exact ⟨0, 0, Nat.zero_le _, by omega, rfl, rfl, rfl⟩
  case round =>
    obtain ⟨k, n, hk, hn, rfl, rfl, HN⟩ := hrel
    by_cases hlt : k < len
    · have hcell := HC.out k hlt
      have hgk := HG.out k
      have HA := Lib.hid (radd_any n (g k) hn hgk)
      by_cases hs : n + g k < 18446744073709551616
      · have e1 : (cutF (n + g k) != 0) = false := by rw [cutF_yes hs]; rfl
        have E2 := Lib.hid (cutF_yes hs)
        have E3 := Lib.hid (cutV_yes hs)
        go_wp2_with (go_at_call 9; refine (HA.out _).mono ?_; rintro e w' ⟨rfl, rfl⟩)
        go_round
        case rel => exact ⟨k + 1, n + g k, by omega, hs, by go_num, by rw [E3.out], by rw [HN.out]; rfl⟩
        case measure => simp [RowKit.intOf]; omega
      · have e1 : (cutF (n + g k) != 0) = true := by rw [cutF_no hs]; rfl
        have E2 := Lib.hid (cutF_no hs)
        have HO := Lib.hid (tot_over hlt (g := g) (by rw [← HN.out]; exact hs))
        go_wp2_with (go_at_call 9; refine (HA.out _).mono ?_; rintro e w' ⟨rfl, rfl⟩)
        go_ret2
        exact ⟨ret_pair (by rw [HO.out.1]; rfl) (by rw [HO.out.2, E2.out]), rfl⟩
    · obtain rfl : k = len := by omega
      have E1 := Lib.hid (cutV_yes hn)
      have E2 := Lib.hid (cutF_yes hn)
      go_wp2
      go_ret2
      exact ⟨ret_pair (by rw [← HN.out, E1.out]) (by rw [← HN.out, E2.out]), rfl⟩
theorem rsum_none (a : Option Addr) (cap : Nat) (w : World) :
    Calls Tryd.prog 18 #[.slice a 0 cap] w fun e w' => e = .returned (.tuple #[.int .u64 0, .int .i64 0]) ∧ w' = w := by
  go_enter Tryd.func18, Tryd.ntmps18
  go_wp2
  go_loop [4, 5] (fun v i => i = .int .i64 0 ∧ v = .int .u64 0) (fun _ _ => 0)
  case atStart => exact ⟨rfl, rfl⟩
  case round =>
    obtain ⟨rfl, rfl⟩ := hrel
    go_wp2
    go_ret2
    exact ⟨rfl, rfl⟩
theorem sums_some (b off len cap : Nat) (g : Nat → Nat) (hg : ∀ j, g j < 18446744073709551616) (hlen : len ≤ 9223372036854775807) (w : World) (hc : ∀ j, j < len → w.cell? ⟨b, off + j, none⟩ = some (.int .u64 (g j : Nat))) :
    Calls Tryd.prog 4 #[.slice (some ⟨b, off, none⟩) len cap] w fun e w' => e = .returned (.bool true) ∧ w' = w := by
  have A1 := Lib.hid (sum_some b off len cap g hg hlen w hc)
  have A2 := Lib.hid (rsum_some b off len cap g hg hlen w hc)
  clear hg hc
  by_cases h : 200 < len
  · go_enter Tryd.func4, Tryd.ntmps4
    go_wp2_with (first
      | (go_at_call 7; refine (alive_any _).mono ?_; rintro e w' ⟨rfl, hw⟩; subst hw))
    go_ret
    exact ⟨rfl, rfl⟩
  · go_enter Tryd.func4, Tryd.ntmps4
    go_wp2_with (first
      | (go_at_call 7; refine (alive_any _).mono ?_; rintro e w' ⟨rfl, hw⟩; subst hw)
      | (go_at_call 17; refine A1.out.mono ?_; rintro e w' ⟨rfl, hw⟩; subst hw)
      | (go_at_call 18; refine A2.out.mono ?_; rintro e w' ⟨rfl, hw⟩; subst hw))
    go_ret
    exact ⟨rfl, rfl⟩
theorem sums_none (a : Option Addr) (cap : Nat) (w : World) :
    Calls Tryd.prog 4 #[.slice a 0 cap] w fun e w' => e = .returned (.bool true) ∧ w' = w := by
  go_enter Tryd.func4, Tryd.ntmps4
  go_wp2_with (first
    | (go_at_call 7; refine (alive_any _).mono ?_; rintro e w' ⟨rfl, rfl⟩)
    | (go_at_call 17; refine (sum_none _ _ _).mono ?_; rintro e w' ⟨rfl, rfl⟩)
    | (go_at_call 18; refine (rsum_none _ _ _).mono ?_; rintro e w' ⟨rfl, rfl⟩))
  go_ret
  exact ⟨rfl, rfl⟩
