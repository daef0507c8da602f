import Derived.Test.YtifljelphniipaaPthM
set_option linter.unusedVariables false
set_option linter.unusedSimpArgs false
namespace Go.Proofs.Ytifljelphniipaa
open Go.RowKit
attribute [local go_sem ↓] Go.wp_at_zero Go.wp_at_succ
set_option maxHeartbeats 2000000 in
theorem porder_no (S : PathSpec) (n : Int) (x y : Nat) (a a1 a2 : Option Addr) (m c k1 c1 k2 c2 : Nat) (F : Bool) (hF : F = lightB n m) (hno : F = false ∨ 100 < k1 ∨ 100 < k2) (w : World) :
    Calls Try.prog 4 #[.agg #[.int .i64 n, .slice a m c], .agg #[.slice a1 k1 c1, .int .u64 (x : Int)], .agg #[.slice a2 k2 c2, .int .u64 (y : Int)]] w fun e w' => e = .returned (.bool true) ∧ Below w.heap.size w w' := by
  have HB0 : Hid (Below w.heap.size w (((w.alloc (.cells #[.int .i64 n, .slice a m c] 24)).alloc (.cells #[.slice a1 k1 c1, .int .u64 (x : Int)] 40)).alloc (.cells #[.slice a2 k2 c2, .int .u64 (y : Int)] 40))) := Lib.hid ((((Below.refl _ _).alloc (Nat.le_refl _) _).alloc (by simp) _).alloc (by simp; omega) _)
  have HA := Lib.hid (fun W => palive_any S W)
  have HL := Lib.hid (fun W => light_any n a m c W)
  rw [← hF] at HL
  clear hF
  obtain ⟨WA, hWA⟩ : ∃ WA, w.alloc (.cells #[.int .i64 n, .slice a m c] 24) = WA := ⟨_, rfl⟩
  obtain ⟨WB, hWB⟩ : ∃ WB, WA.alloc (.cells #[.slice a1 k1 c1, .int .u64 (x : Int)] 40) = WB := ⟨_, rfl⟩
  have z1 : WA.heap.size = w.heap.size + 1 := by rw [← hWA, World.size_alloc]
  have z2 : WB.heap.size = w.heap.size + 1 + 1 := by rw [← hWB, World.size_alloc, z1]
  have f1 := (Below.refl WA.heap.size WA).alloc (Nat.le_refl _) (.cells #[.slice a1 k1 c1, .int .u64 (x : Int)] 40)
  have f2 := (Below.refl WB.heap.size WB).alloc (Nat.le_refl _) (.cells #[.slice a2 k2 c2, .int .u64 (y : Int)] 40)
  rw [hWB] at f1
  have D0 := Lib.hid (cell_on f2 (cell_on f1 (show WA.cell? ⟨w.heap.size, 0, none⟩ = some (.int .i64 n) by rw [← hWA]; simp)))
  have D1 := Lib.hid (cell_on f2 (cell_on f1 (show WA.cell? ⟨w.heap.size, 1, none⟩ = some (.slice a m c) by rw [← hWA]; simp)))
  have D2 := Lib.hid (cell_on f2 (show WB.cell? ⟨w.heap.size + 1, 0, none⟩ = some (.slice a1 k1 c1) by rw [← hWB, ← z1]; simp))
  have D3 := Lib.hid (cell_on f2 (show WB.cell? ⟨w.heap.size + 1, 1, none⟩ = some (.int .u64 (x : Int)) by rw [← hWB, ← z1]; simp))
  have D4 : Hid ((WB.alloc (.cells #[.slice a2 k2 c2, .int .u64 (y : Int)] 40)).cell? ⟨w.heap.size + 1 + 1, 0, none⟩ = some (.slice a2 k2 c2)) := Lib.hid (by rw [← z2]; simp)
  have D5 : Hid ((WB.alloc (.cells #[.slice a2 k2 c2, .int .u64 (y : Int)] 40)).cell? ⟨w.heap.size + 1 + 1, 1, none⟩ = some (.int .u64 (y : Int))) := Lib.hid (by rw [← z2]; simp)
  clear f1 f2 z1 z2
  subst hWB
  subst hWA
  cases F
  · clear hno
    go_enter Try.func4, Try.ntmps4
    go_wp2_with (first
      | (go_at_call 7; refine (HL.out _).mono ?_; rintro e w1 ⟨rfl, hB⟩; have HB1 := Lib.hid (on_trans HB0.out hB); have b0 := cell_on hB D0.out; have b1 := cell_on hB D1.out; have b2 := cell_on hB D2.out; have b3 := cell_on hB D3.out; have b4 := cell_on hB D4.out; have b5 := cell_on hB D5.out; clear hB HL D0 D1 D2 D3 D4 D5)
      | (go_at_call 8; refine (HA.out _).mono ?_; rintro e w2 ⟨rfl, hB⟩; have HB2 := Lib.hid (on_trans HB1.out hB); clear hB HA))
    go_ret
    exact ⟨rfl, HB2.out⟩
  · have p : 100 < k1 ∨ 100 < k2 := by simpa using hno
    clear hno
    by_cases h1 : 100 < k1
    · have q1 : decide ((100 : Int) < (k1 : Int)) = true := decide_eq_true (by omega)
      have q1' : decide (100 < k1) = true := decide_eq_true h1
      clear p
      go_enter Try.func4, Try.ntmps4
      go_wp2_with (first
        | (go_at_call 7; refine (HL.out _).mono ?_; rintro e w1 ⟨rfl, hB⟩; have HB1 := Lib.hid (on_trans HB0.out hB); have b0 := cell_on hB D0.out; have b1 := cell_on hB D1.out; have b2 := cell_on hB D2.out; have b3 := cell_on hB D3.out; have b4 := cell_on hB D4.out; have b5 := cell_on hB D5.out; clear hB HL D0 D1 D2 D3 D4 D5)
        | (go_at_call 8; refine (HA.out _).mono ?_; rintro e w2 ⟨rfl, hB⟩; have HB2 := Lib.hid (on_trans HB1.out hB); clear hB HA))
      go_ret
      exact ⟨rfl, HB2.out⟩
    · have h2 : 100 < k2 := by omega
      have q1 : decide ((100 : Int) < (k1 : Int)) = false := decide_eq_false (by omega)
      have q1' : decide (100 < k1) = false := decide_eq_false h1
      have q2 : decide ((100 : Int) < (k2 : Int)) = true := decide_eq_true (by omega)
      have q2' : decide (100 < k2) = true := decide_eq_true h2
      clear p
      go_enter Try.func4, Try.ntmps4
      go_wp2_with (first
        | (go_at_call 7; refine (HL.out _).mono ?_; rintro e w1 ⟨rfl, hB⟩; have HB1 := Lib.hid (on_trans HB0.out hB); have b0 := cell_on hB D0.out; have b1 := cell_on hB D1.out; have b2 := cell_on hB D2.out; have b3 := cell_on hB D3.out; have b4 := cell_on hB D4.out; have b5 := cell_on hB D5.out; clear hB HL D0 D1 D2 D3 D4 D5)
        | (go_at_call 8; refine (HA.out _).mono ?_; rintro e w2 ⟨rfl, hB⟩; have HB2 := Lib.hid (on_trans HB1.out hB); clear hB HA))
      go_ret
      exact ⟨rfl, HB2.out⟩
/-- PathOrder's walk. -/
theorem pathorder_any (S : PathSpec) (n : Int) (x y : Nat) (hx : x < 18446744073709551616) (hy : y < 18446744073709551616) {v u z : Value} {es : List Ed} {xs ys : List Int} (w : World) (h : EdgesAt w v es) (hi : IntsAt w u xs) (hj : IntsAt w z ys) :
    Calls Try.prog 4 #[.agg #[.int .i64 n, v], .agg #[u, .int .u64 (x : Int)], .agg #[z, .int .u64 (y : Int)]] w fun e w' => e = .returned (.bool true) ∧ Below w.heap.size w w' := by
  by_cases h1 : lightB n es.length = true ∧ xs.length ≤ 100 ∧ ys.length ≤ 100
  · exact porder_any S n x y hx hy w h hi hj h1.1 h1.2.1 h1.2.2
  · obtain ⟨a, c, rfl, _⟩ := edgesAt_flat h
    obtain ⟨a1, c1, rfl, _, _⟩ := hi
    obtain ⟨a2, c2, rfl, _, _⟩ := hj
    refine porder_no S n x y a a1 a2 _ c _ c1 _ c2 _ rfl ?_ w
    by_cases h2 : lightB n es.length = true
    · right
      by_cases h3 : 100 < xs.length
      · exact .inl h3
      · exact .inr (by
          rcases Nat.lt_or_ge 100 ys.length with h4 | h4
          · exact h4
          · exact absurd ⟨h2, by omega, h4⟩ h1)
    · exact .inl (by simpa using h2)
end Go.Proofs.Ytifljelphniipaa
