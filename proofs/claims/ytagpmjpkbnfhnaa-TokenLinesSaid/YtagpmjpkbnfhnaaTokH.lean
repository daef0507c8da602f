import Derived.Test.YtagpmjpkbnfhnaaTokG
import Derived.Laws.Concat
set_option linter.unusedVariables false
set_option linter.unusedSimpArgs false
namespace Go.Proofs.Ytagpmjpkbnfhnaa
open Go.RowKit
theorem wrong_any (s : ByteArray) (hs : s.size ≤ maxLen) (w : World) :
    Calls Try.prog 25 #[.string s] w fun e w' => e = .returned (.bool (!rightB s)) ∧ w' = w := by
  have HC := Lib.hid (fun W => tright_any s hs W)
  generalize rightB s = b at HC ⊢
  go_enter Try.func25, Try.ntmps25
  go_wp2_with (go_at_call 13; refine (HC.out _).mono ?_; rintro e w' ⟨rfl, rfl⟩)
  go_ret
  exact ⟨rfl, rfl⟩
/-- All of the first k are words. -/
def AllR (xs : List ByteArray) (k : Nat) : Prop := ∀ (j : Nat) x, j < k → xs[j]? = some x → rightB x = true
theorem AllR.succ {xs : List ByteArray} {k : Nat} {x : ByteArray} (h : AllR xs k) (hx : xs[k]? = some x) (hr : rightB x = true) : AllR xs (k + 1) := fun j y hj hy => by
  by_cases e : j = k
  · subst e
    rw [hx] at hy
    obtain rfl := Option.some.inj hy
    exact hr
  · exact h j y (by omega) hy
theorem allR_all {xs : List ByteArray} (h : AllR xs xs.length) : xs.all rightB = true := by
  rw [List.all_eq_true]
  intro x hx
  obtain ⟨i, hi, rfl⟩ := List.getElem_of_mem hx
  exact h i _ hi (List.getElem?_eq_getElem hi)
theorem allR_no {xs : List ByteArray} {k : Nat} {x : ByteArray} (hx : xs[k]? = some x) (hr : rightB x = false) : xs.all rightB = false := by
  rw [List.all_eq_false]
  exact ⟨x, List.mem_of_getElem? hx, by rw [hr]; simp⟩
set_option maxHeartbeats 1000000 in
theorem idxf_some (b o c : Nat) (xs : List ByteArray) (hb : xs.length ≤ 4000000) (hz : ∀ x ∈ xs, x.size ≤ maxLen) (w : World)
    (h1 : Hid (∀ j x, xs[j]? = some x → w.cell? ⟨b, o + j, none⟩ = some (.string x))) :
    Calls Try.prog 31 #[.slice (some ⟨b, o, none⟩) xs.length c, .func (.func 25) #[] #[]] w fun e w' => ∃ r : Int, e = .returned (.int .i64 r) ∧ -1 ≤ r ∧ decide (0 ≤ r) = !xs.all rightB ∧ w' = w := by
  obtain ⟨n, hn⟩ : ∃ n, xs.length = n := ⟨_, rfl⟩
  have HZ := Lib.hid hz
  clear hz
  rw [hn]
  go_enter Try.func31, Try.ntmps31
  go_wp2
  go_loop [8] (fun i => ∃ k : Nat, k ≤ n ∧ i = .int .i64 k ∧ Hid (AllR xs k)) (fun i => n - (RowKit.intOf i).toNat)
  case atStart => exact ⟨0, Nat.zero_le _, rfl, Lib.hid fun j _ h => by omega⟩
  case round =>
    obtain ⟨k, hk, rfl, HA⟩ := hrel
    by_cases hlt : k < n
    · have hx0 : xs[k]? = some (xs[k]'(by omega)) := List.getElem?_eq_getElem (by omega)
      have e1 := h1.out k _ hx0
      obtain ⟨x, hx⟩ : ∃ x, xs[k]'(by omega) = x := ⟨_, rfl⟩
      rw [hx] at e1 hx0
      have HC := Lib.hid (fun W => wrong_any x (HZ.out x (List.mem_of_getElem? hx0)) W)
      cases hr : rightB x
      · have HN := Lib.hid (allR_no hx0 hr)
        rw [hr] at HC
        clear hr hx hx0
        go_wp2_with (go_at_call 25; refine (HC.out _).mono ?_; rintro e w' ⟨rfl, hw'⟩; obtain rfl := hw'.symm)
        go_ret
        exact ⟨_, rfl, by omega, by rw [HN.out, decide_eq_true (by omega)]; rfl, rfl⟩
      · have HN := Lib.hid (HA.out.succ hx0 hr)
        rw [hr] at HC
        clear hr hx hx0
        go_wp2_with (go_at_call 25; refine (HC.out _).mono ?_; rintro e w' ⟨rfl, hw'⟩; obtain rfl := hw'.symm)
        go_round
        case rel => exact ⟨k + 1, by omega, by go_num, HN⟩
        case measure => simp [RowKit.intOf] <;> omega
    · obtain rfl : k = n := by omega
      have HN := Lib.hid (allR_all (xs := xs) (by rw [hn]; exact HA.out))
      go_wp2
      go_ret
      exact ⟨_, rfl, by omega, by rw [HN.out, decide_eq_false (by omega)]; rfl, rfl⟩
set_option maxHeartbeats 400000 in
theorem idxf_none (a : Option Addr) (c : Nat) (w : World) :
    Calls Try.prog 31 #[.slice a 0 c, .func (.func 25) #[] #[]] w fun e w' => e = .returned (.int .i64 (-1)) ∧ w' = w := by
  go_enter Try.func31, Try.ntmps31
  go_wp2
  refine wp_loop_rounds 1 ?_
  rw [rounds_succ]
  go_wp2
  go_ret
  exact ⟨rfl, rfl⟩
theorem idxf_any {v : Value} {xs : List ByteArray} (hb : xs.length ≤ 4000000) (hz : ∀ x ∈ xs, x.size ≤ maxLen) (w : World) (h : StrsAt w v xs) :
    Calls Try.prog 31 #[v, .func (.func 25) #[] #[]] w fun e w' => ∃ r : Int, e = .returned (.int .i64 r) ∧ -1 ≤ r ∧ decide (0 ≤ r) = !xs.all rightB ∧ w' = w := by
  obtain ⟨a1, c1, rfl, _, g1⟩ := h
  by_cases h0 : xs.length = 0
  · obtain rfl := List.length_eq_zero_iff.1 h0
    refine (idxf_none a1 c1 w).mono ?_
    rintro e w' ⟨rfl, rfl⟩
    exact ⟨_, rfl, by omega, rfl, rfl⟩
  · obtain ⟨b1, o1, rfl, k1⟩ := g1 (by omega)
    exact idxf_some b1 o1 c1 xs hb hz w (Lib.hid k1)
set_option maxHeartbeats 400000 in
theorem contains_any {v : Value} {xs : List ByteArray} (hb : xs.length ≤ 4000000) (hz : ∀ x ∈ xs, x.size ≤ maxLen) (w : World) (h : StrsAt w v xs) :
    Calls Try.prog 26 #[v, .func (.func 25) #[] #[]] w fun e w' => e = .returned (.bool (!xs.all rightB)) ∧ w' = w := by
  have HC := Lib.hid (idxf_any hb hz w h)
  obtain ⟨a1, c1, rfl, _, g1⟩ := h
  clear hz g1
  generalize (!xs.all rightB) = r0 at HC ⊢
  go_enter Try.func26, Try.ntmps26
  go_wp2_with (go_at_call 31; refine HC.out.mono ?_; rintro e w' ⟨r, rfl, hr1, hr2, rfl⟩)
  go_ret
  exact ⟨by rw [← hr2]; rfl, rfl⟩
theorem lens1_take (xs : List ByteArray) {k : Nat} {x : ByteArray} (hx : xs[k]? = some x) : lens1 (xs.take (k + 1)) = lens1 (xs.take k) + (x.size + 1) := by
  obtain ⟨hk, rfl⟩ := List.getElem?_eq_some_iff.1 hx
  unfold lens1
  rw [List.take_succ_eq_append_getElem hk, List.map_append, List.sum_append]
  simp
theorem lens1_le (xs : List ByteArray) (k : Nat) : lens1 (xs.take k) ≤ lens1 xs := by
  have h : lens1 xs = lens1 (xs.take k) + lens1 (xs.drop k) := by
    unfold lens1
    rw [← List.sum_append, ← List.map_append, List.take_append_drop]
  omega
set_option maxHeartbeats 1000000 in
theorem fit_some (b o c : Nat) (xs : List ByteArray) (hb : xs.length ≤ 4000000) (hz : ∀ x ∈ xs, x.size ≤ 4000000) (w : World)
    (h1 : Hid (∀ j x, xs[j]? = some x → w.cell? ⟨b, o + j, none⟩ = some (.string x))) :
    Calls Try.prog 27 #[.slice (some ⟨b, o, none⟩) xs.length c] w fun e w' => e = .returned (.bool (fitB xs)) ∧ w' = w := by
  obtain ⟨n, hn⟩ : ∃ n, xs.length = n := ⟨_, rfl⟩
  have HZ := Lib.hid hz
  clear hz
  rw [hn]
  go_enter Try.func27, Try.ntmps27
  go_wp2
  go_loop [3, 8] (fun r i => ∃ k R : Nat, k ≤ n ∧ R ≤ 65537 ∧ i = .int .i64 k ∧ r = .int .i64 (65537 - (R : Int)) ∧ Hid (R = lens1 (xs.take k))) (fun _ i => n - (RowKit.intOf i).toNat)
  case atStart => exact ⟨0, 0, Nat.zero_le _, Nat.zero_le _, rfl, by simp, Lib.hid rfl⟩
  case round =>
    obtain ⟨k, R, hk, hR, rfl, rfl, HA⟩ := hrel
    by_cases hlt : k < n
    · have hx0 : xs[k]? = some (xs[k]'(by omega)) := List.getElem?_eq_getElem (by omega)
      have e1 := h1.out k _ hx0
      obtain ⟨x, hx⟩ : ∃ x, xs[k]'(by omega) = x := ⟨_, rfl⟩
      rw [hx] at e1 hx0
      have hxz := HZ.out x (List.mem_of_getElem? hx0)
      have HS := Lib.hid (lens1_take xs hx0)
      by_cases hfit : R + (x.size + 1) ≤ 65537
      · have HN : Hid (R + (x.size + 1) = lens1 (xs.take (k + 1))) := Lib.hid (by rw [HS.out, HA.out])
        clear hx hx0
        go_wp2
        go_round
        case rel => exact ⟨k + 1, R + (x.size + 1), by omega, hfit, by go_num, congrArg (Value.int .i64) (by omega), HN⟩
        case measure => simp [RowKit.intOf] <;> omega
      · have HN : Hid (fitB xs = false) := Lib.hid (by
          unfold fitB
          have h3 := lens1_le xs (k + 1)
          have h4 := HA.out
          rw [HS.out] at h3
          exact decide_eq_false (by omega))
        clear hx hx0
        go_wp2
        go_ret
        exact ⟨by rw [HN.out]; rfl, rfl⟩
    · obtain rfl : k = n := by omega
      have HN : Hid (fitB xs = true) := Lib.hid (by
        unfold fitB
        have h4 := HA.out
        rw [List.take_of_length_le (by omega)] at h4
        exact decide_eq_true (by omega))
      go_wp2
      go_ret
      exact ⟨by rw [HN.out]; rfl, rfl⟩
set_option maxHeartbeats 400000 in
theorem fit_none (a : Option Addr) (c : Nat) (w : World) :
    Calls Try.prog 27 #[.slice a 0 c] w fun e w' => e = .returned (.bool true) ∧ w' = w := by
  go_enter Try.func27, Try.ntmps27
  go_wp2
  refine wp_loop_rounds 1 ?_
  rw [rounds_succ]
  go_wp2
  go_ret
  exact ⟨rfl, rfl⟩
theorem fit_any {v : Value} {xs : List ByteArray} (hb : xs.length ≤ 4000000) (hz : ∀ x ∈ xs, x.size ≤ 4000000) (w : World) (h : StrsAt w v xs) :
    Calls Try.prog 27 #[v] w fun e w' => e = .returned (.bool (fitB xs)) ∧ w' = w := by
  obtain ⟨a1, c1, rfl, _, g1⟩ := h
  by_cases h0 : xs.length = 0
  · obtain rfl := List.length_eq_zero_iff.1 h0
    exact fit_none a1 c1 w
  · obtain ⟨b1, o1, rfl, k1⟩ := g1 (by omega)
    exact fit_some b1 o1 c1 xs hb hz w (Lib.hid k1)
end Go.Proofs.Ytagpmjpkbnfhnaa
