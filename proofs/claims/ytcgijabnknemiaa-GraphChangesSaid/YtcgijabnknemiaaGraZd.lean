import Derived.Test.YtcgijabnknemiaaGraZc
set_option linter.unusedVariables false
set_option linter.unusedSimpArgs false
namespace Go.Proofs.Ytcgijabnknemiaa
open Go.RowKit
attribute [local go_sem ↓] Go.wp_at_zero Go.wp_at_succ
theorem sumW_take' (es : List Ed) {k : Nat} {e : Ed} (he : es[k]? = some e) : sumW (es.take (k + 1)) = sumW (es.take k) + e.w := sumW_take es he
set_option maxHeartbeats 1000000 in
theorem ptotal_no (n : Int) (E : Value) (w : World) (HV : Hid (∀ W, Below w.heap.size w W → Calls Try.prog 34 #[.agg #[.int .i64 n, E]] W fun e w' => e = .returned (.bool false) ∧ Below W.heap.size W w')) :
    Calls Try.prog 20 #[.agg #[.int .i64 n, E]] w fun e w' => e = .returned (.int .u64 0) ∧ Below w.heap.size w w' := by
  have HB0 := Lib.hid ((Below.refl w.heap.size w).alloc (Nat.le_refl _) (.cells #[.int .i64 n, E] 24))
  go_enter Try.func20, Try.ntmps20
  go_wp2_with (go_at_call 34; refine (HV.out _ HB0.out).mono ?_; rintro e w1 ⟨rfl, hB⟩; have HB1 := Lib.hid (on_trans HB0.out hB); clear hB)
  go_ret
  exact ⟨rfl, HB1.out⟩
set_option maxHeartbeats 2000000 in
theorem ptotal_right (n : Int) (es : List Ed) (a : Option Addr) (m c : Nat) (hm : es.length = m) (hl : m ≤ 16384) (w : World)
    (HC : Hid (0 < m → ∃ b off, a = some ⟨b, off, none⟩ ∧ ∀ (j : Nat) e, es[j]? = some e → w.cell? ⟨b, off + j * 3, none⟩ = some (.int .i64 e.f) ∧ w.cell? ⟨b, off + j * 3 + 1, none⟩ = some (.int .i64 e.t) ∧ w.cell? ⟨b, off + j * 3 + 2, none⟩ = some (.int .u64 (e.w : Int))))
    (HV : Hid (∀ W, Below w.heap.size w W → Calls Try.prog 34 #[.agg #[.int .i64 n, .slice a m c]] W fun e w' => e = .returned (.bool true) ∧ Below W.heap.size W w')) :
    Calls Try.prog 20 #[.agg #[.int .i64 n, .slice a m c]] w fun e w' => e = .returned (.int .u64 ((sumW es % 18446744073709551616 : Nat) : Int)) ∧ Below w.heap.size w w' := by
  have HB0 := Lib.hid ((Below.refl w.heap.size w).alloc (Nat.le_refl _) (.cells #[.int .i64 n, .slice a m c] 24))
  go_enter Try.func20, Try.ntmps20
  go_wp2_with (go_at_call 34; refine (HV.out _ HB0.out).mono ?_; rintro e w1 ⟨rfl, hB⟩; have b1 := cell_on hB (p := ⟨w.heap.size, 1, none⟩) (v := .slice a m c) (by simp); have HB1 := Lib.hid (on_trans HB0.out hB); clear hB HV)
  go_loopw [3, 12] (fun s i wr => ∃ (k S : Nat), k ≤ m ∧ i = .int .i64 k ∧ s = .int .u64 (S : Nat) ∧ S < 18446744073709551616 ∧ Hid (S = sumW (es.take k) % 18446744073709551616) ∧ Hid (Below w.heap.size w wr)) (fun _ i _ => m - (RowKit.intOf i).toNat)
  case atStart => exact ⟨0, 0, by omega, rfl, rfl, by omega, Lib.hid rfl, HB1⟩
  case round =>
    obtain ⟨k, S, hk, rfl, rfl, hS, HS, HB⟩ := hrel
    by_cases hlt : k < m
    · obtain ⟨b, off, rfl, hc⟩ := HC.out (by omega)
      have he0 : es[k]? = some (es[k]'(by omega)) := List.getElem?_eq_getElem (by omega)
      obtain ⟨⟨f, t, x⟩, he⟩ : ∃ e, es[k]'(by omega) = e := ⟨_, rfl⟩
      rw [he] at he0
      obtain ⟨e1, e2, e3⟩ := hc k _ he0
      have e1 := cell_on HB.out e1
      have e2 := cell_on HB.out e2
      have e3 := cell_on HB.out e3
      simp only at e1 e2 e3
      have hN := sumW_take es he0
      have HS2 := Lib.hid (show (S + x) % 18446744073709551616 = sumW (es.take (k + 1)) % 18446744073709551616 from by rw [hN, HS.out]; simp only; omega)
      have hz : (S + x) % 18446744073709551616 < 18446744073709551616 := Nat.mod_lt _ (by decide)
      have hw2 := uw_add S x
      obtain ⟨S2, hS2⟩ : ∃ S2, (S + x) % 18446744073709551616 = S2 := ⟨_, rfl⟩
      rw [hS2] at HS2 hz hw2
      have HB2 := Lib.hid (HB.out.alloc HB.out.size (.cells #[.int .i64 f, .int .i64 t, .int .u64 (x : Int)] 46))
      clear hS2 HS he he0 hN hc HC b1
      go_wp2
      go_roundw
      case rel => exact ⟨k + 1, S2, by omega, by go_num, by first | rfl | exact congrArg (Value.int .u64) hw2, hz, HS2, HB2⟩
      case measure => simp [RowKit.intOf] <;> omega
    · obtain rfl : k = m := by omega
      have HX : Hid (sumW es % 18446744073709551616 = S) := Lib.hid (by
        have := HS.out
        rw [List.take_of_length_le (by omega)] at this
        exact this.symm)
      go_wp2
      go_ret
      exact ⟨by rw [HX.out]; rfl, HB.out⟩
theorem ptotal_any (n : Int) {v : Value} {es : List Ed} (w : World) (h : EdgesAt w v es) :
    Calls Try.prog 20 #[.agg #[.int .i64 n, v]] w fun e w' => e = .returned (.int .u64 (totalV n es : Nat)) ∧ Below w.heap.size w w' := by
  have HV := Lib.hid (fun W (hB : Below w.heap.size w W) => pvalid_any n W (h.on hB))
  obtain ⟨a, c, rfl, g⟩ := edgesAt_flat h
  unfold totalV
  by_cases h1 : rightF n es = 0
  · rw [if_pos h1]
    rw [decide_eq_true h1] at HV
    exact ptotal_right n es a _ c rfl (right_ends h1).2.2.1 w (Lib.hid g) HV
  · rw [if_neg h1]
    rw [decide_eq_false h1] at HV
    exact ptotal_no n _ w HV
set_option maxHeartbeats 1000000 in
theorem prev_no (n : Int) (E : Value) (w : World) (HV : Hid (∀ W, Below w.heap.size w W → Calls Try.prog 34 #[.agg #[.int .i64 n, E]] W fun e w' => e = .returned (.bool false) ∧ Below W.heap.size W w')) :
    Calls Try.prog 18 #[.agg #[.int .i64 n, E]] w fun e w' => e = .returned (.agg #[.int .i64 0, .slice none 0 0]) ∧ Below w.heap.size w w' := by
  have HB0 := Lib.hid (((Below.refl w.heap.size w).alloc (Nat.le_refl _) (.cells #[.int .i64 n, E] 24)).alloc (by simp) (.cells #[.int .i64 0, .slice none 0 0] 24))
  go_enter Try.func18, Try.ntmps18
  go_wp2_with (go_at_call 34; refine (HV.out _ HB0.out).mono ?_; rintro e w1 ⟨rfl, hB⟩; have c0 := cell_on hB (p := ⟨w.heap.size + 1, 0, none⟩) (v := .int .i64 0) (by simp); have c1 := cell_on hB (p := ⟨w.heap.size + 1, 1, none⟩) (v := .slice none 0 0) (by simp); have f0 := frozen_on hB (p := ⟨w.heap.size + 1, 0, none⟩) (v := .int .i64 0) (by simp) (by simp); have f1 := frozen_on hB (p := ⟨w.heap.size + 1, 1, none⟩) (v := .slice none 0 0) (by simp) (by simp); have HB1 := Lib.hid (on_trans HB0.out hB); clear hB)
  have h2 := set2_cells c0 c1 (.int .i64 0) (.slice none 0 0)
  exact bodyPost_ret_by (resG rfl _ rfl h2.1 h2.2) rfl ⟨rfl, (HB1.out.setCell (by simp) _).setCell (by simp) _⟩
end Go.Proofs.Ytcgijabnknemiaa
