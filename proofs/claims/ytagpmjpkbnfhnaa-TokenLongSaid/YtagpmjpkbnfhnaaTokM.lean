import Derived.Test.YtagpmjpkbnfhnaaTokK
set_option linter.unusedVariables false
set_option linter.unusedSimpArgs false
namespace Go.Proofs.Ytagpmjpkbnfhnaa
open Go.RowKit
theorem lens1_small {xs : List ByteArray} {m : Nat} (h : ∀ x ∈ xs, x.size ≤ m) : lens1 xs ≤ xs.length * (m + 1) := by
  induction xs with
  | nil => exact Nat.zero_le _
  | cons x r ih =>
    have h1 := h x (by simp)
    have h2 := ih (fun y hy => h y (by simp [hy]))
    simp only [lens1, List.map_cons, List.sum_cons, List.length_cons] at h2 ⊢
    rw [Nat.add_mul]
    omega
theorem small_all {xs : List ByteArray} (h : ∀ (j : Nat) x, j < xs.length → xs[j]? = some x → x.size ≤ 100) : ∀ x ∈ xs, x.size ≤ 100 := by
  intro x hx
  obtain ⟨i, hi, rfl⟩ := List.getElem_of_mem hx
  exact h i _ hi (List.getElem?_eq_getElem hi)
set_option maxHeartbeats 2000000 in
theorem lineslaw_in (s : ByteArray) (xs : List ByteArray) (hs : s.size ≤ 3000) (hn : xs.length ≤ 100) (hmx : ∀ x ∈ xs, x.size ≤ maxLen) (a : Option Addr) (c : Nat) (w : World) (hm : MaxI w) (h : StrsAt w (.slice a xs.length c) xs) :
    Calls Try.prog 4 #[.string s, .slice a xs.length c] w fun e w' => e = .returned (.bool true) ∧ Below w.heap.size w w' := by
  have HD : Hid (∀ (j : Nat) x, xs[j]? = some x → ∃ b off, a = some ⟨b, off, none⟩ ∧ w.cell? ⟨b, off + j, none⟩ = some (.string x)) := Lib.hid (by
    intro j x hj
    obtain ⟨a1, c1, e1, _, g⟩ := h
    injection e1 with e2 e3 e4
    obtain ⟨b, off, e5, g2⟩ := g (by have := (List.getElem?_eq_some_iff.1 hj).1; omega)
    exact ⟨b, off, by rw [e2, e5], g2 j x hj⟩)
  have HT := Lib.hid (fun W => tlines_any s (by omega) W)
  have HR := Lib.hid (fun W => rlines_any s (by omega) W)
  have HU := Lib.hid (fun W (hW : Below w.heap.size w W) => tcut_any s (by omega) W (maxI_on hW hm))
  have HV := Lib.hid (fun W => rcut_any s (by omega) W)
  have HL := Lib.hid (show (linesOf s).1.length ≤ 4000000 from Nat.le_trans (lines_len s) (by omega))
  have HA := Lib.hid (fun W => alive_any W)
  have HJ : Hid ((∀ x ∈ xs, x.size ≤ 100) → ∀ W, Below w.heap.size w W → Calls Try.prog 19 #[.slice a xs.length c] W fun e w' => e = .returned (.tuple #[.string (joinV xs), .int .i64 (joinF xs)]) ∧ Below W.heap.size W w') :=
    Lib.hid (fun hx W hW => tjoin_any (by omega) (fun x hm => Nat.le_trans (hx x hm) (by omega)) W (h.on hW))
  have HK : Hid ((∀ x ∈ xs, x.size ≤ 100) → ∀ W, Below w.heap.size w W → Calls Try.prog 20 #[.slice a xs.length c] W fun e w' => e = .returned (.tuple #[.string (joinV xs), .int .i64 (joinF xs)]) ∧ w' = W) :=
    Lib.hid (fun hx W hW => rjoin_any (by omega) (Nat.le_trans (lens1_small hx) (by have := Nat.mul_le_mul_right (100 + 1) hn; omega)) hmx W (h.on hW))
  have HZ := Lib.hid hmx
  clear hm h hmx
  obtain ⟨n, hn0⟩ : ∃ n, xs.length = n := ⟨_, rfl⟩
  rw [hn0] at hn HJ HK
  rw [hn0]
  generalize (linesOf s).1 = V at HT HR HL
  generalize (linesOf s).2 = R at HT HR
  generalize cutL s = C1 at HU HV
  generalize cutR s = C2 at HU HV
  generalize cutIs s = C3 at HU HV
  generalize joinV xs = J at HJ HK
  generalize joinF xs = F at HJ HK
  go_enter Try.func4, Try.ntmps4
  go_wp2
  go_loop [5] (fun i => ∃ k : Nat, k ≤ n ∧ i = .int .i64 k ∧ Hid (∀ (j : Nat) x, j < k → xs[j]? = some x → x.size ≤ 100)) (fun i => n - (RowKit.intOf i).toNat)
  case atStart => exact ⟨0, Nat.zero_le _, rfl, Lib.hid fun j _ h => by omega⟩
  case round =>
    obtain ⟨k, hk, rfl, HS⟩ := hrel
    by_cases hlt : k < n
    · have hx0 : xs[k]? = some (xs[k]'(by omega)) := List.getElem?_eq_getElem (by omega)
      obtain ⟨b, off, rfl, e1⟩ := HD.out k _ hx0
      obtain ⟨x, hx⟩ : ∃ x, xs[k]'(by omega) = x := ⟨_, rfl⟩
      rw [hx] at e1 hx0
      have hxm := HZ.out x (List.mem_of_getElem? hx0)
      unfold maxLen at hxm
      by_cases hb : x.size ≤ 100
      · have HN : Hid (∀ (j : Nat) x, j < k + 1 → xs[j]? = some x → x.size ≤ 100) := Lib.hid (fun j z hj hz => by
          by_cases e : j = k
          · subst e
            rw [hx0] at hz
            obtain rfl := Option.some.inj hz
            exact hb
          · exact HS.out j z (by omega) hz)
        clear hx hx0
        go_wp2
        go_round
        case rel => exact ⟨k + 1, by omega, by go_num, HN⟩
        case measure => simp [RowKit.intOf] <;> omega
      · clear hx hx0
        go_wp2_with (go_at_call 7; refine (HA.out _).mono ?_; rintro e w6 ⟨rfl, hB6⟩)
        go_ret
        exact ⟨rfl, hB6⟩
    · obtain rfl : k = n := by omega
      have HX := Lib.hid (small_all (xs := xs) (by rw [hn0]; exact HS.out))
      clear HS HD HZ
      go_wp2_with (first
        | (go_at_call 15; refine (HT.out _).mono ?_; rintro e w1 ⟨v1, rfl, hS1, hB1⟩; have HS1 := Lib.hid hS1; have HB1 := Lib.hid hB1; clear hS1 hB1)
        | (go_at_call 16; refine (HR.out _).mono ?_; rintro e w2 ⟨v2, rfl, hS2, hB2⟩; have HS2 := Lib.hid hS2; have HS1b := Lib.hid (HS1.out.on hB2); have HB2 := Lib.hid (on_trans HB1.out hB2); clear hS2 hB2)
        | (go_at_call 17; refine (HU.out _ HB2.out).mono ?_; rintro e w3 ⟨rfl, hB3⟩; have HS1c := Lib.hid (HS1b.out.on hB3); have HS2c := Lib.hid (HS2.out.on hB3); have HB3 := Lib.hid (on_trans HB2.out hB3); clear hB3)
        | (go_at_call 18; refine (HV.out _).mono ?_; rintro e w4 ⟨rfl, hB4⟩; have HS1d := Lib.hid (HS1c.out.on hB4); have HS2d := Lib.hid (HS2c.out.on hB4); have HB4 := Lib.hid (on_trans HB3.out hB4); clear hB4)
        | (go_at_call 19; refine (HJ.out HX.out _ HB4.out).mono ?_; rintro e w5 ⟨rfl, hB5⟩; have HS1e := Lib.hid (HS1d.out.on hB5); have HS2e := Lib.hid (HS2d.out.on hB5); have HB5 := Lib.hid (on_trans HB4.out hB5); clear hB5)
        | (go_at_call 20; refine (HK.out HX.out _ HB5.out).mono ?_; rintro e w' ⟨rfl, hw'⟩; obtain rfl := hw'.symm)
        | (go_at_call 10; refine (same_yes HL.out _ HS1e.out HS2e.out).mono ?_; rintro e w6 ⟨rfl, hB6⟩; have HB6 := Lib.hid (on_trans HB5.out hB6); clear hB6)
        | (go_at_call 7; refine (HA.out _).mono ?_; rintro e w7 ⟨rfl, hB7⟩; have HB7 := Lib.hid (on_trans HB6.out hB7); clear hB7))
      go_ret
      exact ⟨rfl, HB7.out⟩
set_option maxHeartbeats 400000 in
theorem lineslaw_out (s : ByteArray) (hs : s.size ≤ maxLen) (n : Nat) (h : 3000 < s.size ∨ 100 < n) (hn : n ≤ maxLen) (a : Option Addr) (c : Nat) (w : World) :
    Calls Try.prog 4 #[.string s, .slice a n c] w fun e w' => e = .returned (.bool true) ∧ Below w.heap.size w w' := by
  have HA := Lib.hid (fun W => alive_any W)
  unfold maxLen at hs hn
  by_cases h1 : 3000 < s.size
  · go_enter Try.func4, Try.ntmps4
    go_wp2_with (go_at_call 7; refine (HA.out _).mono ?_; rintro e w6 ⟨rfl, hB6⟩)
    go_ret
    exact ⟨rfl, hB6⟩
  · have h2 : 100 < n := by omega
    clear h
    go_enter Try.func4, Try.ntmps4
    go_wp2_with (go_at_call 7; refine (HA.out _).mono ?_; rintro e w6 ⟨rfl, hB6⟩)
    go_ret
    exact ⟨rfl, hB6⟩
theorem lineslaw_any (s : ByteArray) (hs : s.size ≤ maxLen) {v : Value} {xs : List ByteArray} (hz : ∀ x ∈ xs, x.size ≤ maxLen) (hn : xs.length ≤ maxLen) (w : World) (hm : MaxI w) (h : StrsAt w v xs) :
    Calls Try.prog 4 #[.string s, v] w fun e w' => e = .returned (.bool true) ∧ Below w.heap.size w w' := by
  have h' := h
  obtain ⟨a, c, rfl, _⟩ := h'
  by_cases h1 : s.size ≤ 3000 ∧ xs.length ≤ 100
  · exact lineslaw_in s xs h1.1 h1.2 hz a c w hm h
  · exact lineslaw_out s hs xs.length (by omega) hn a c w
end Go.Proofs.Ytagpmjpkbnfhnaa
