import Derived.Test.YtcgijabnknemiaaGraB
set_option linter.unusedVariables false
set_option linter.unusedSimpArgs false
namespace Go.Proofs.Ytcgijabnknemiaa
open Go.RowKit
set_option maxHeartbeats 1000000 in
theorem rright_range (n : Int) (h : n < 1 ∨ 4096 < n) (E : Value) (w : World) :
    Calls Try.prog 10 #[.agg #[.int .i64 n, E]] w fun e w' => e = .returned (.int .i64 2) ∧ Below w.heap.size w w' := by
  have HB1 := Lib.hid ((Below.refl w.heap.size w).alloc (Nat.le_refl _) (.cells #[.int .i64 n, E] 24))
  have hd : n < 1 ∨ (1 ≤ n ∧ 4096 < n) := by omega
  clear h
  rcases hd with h | ⟨h, h'⟩
  all_goals
    go_enter Try.func10, Try.ntmps10
    go_wp2
    go_ret
    exact ⟨rfl, HB1.out⟩
set_option maxHeartbeats 1000000 in
theorem rright_big (n : Int) (h1 : 1 ≤ n) (h2 : n ≤ 4096) (a : Option Addr) (m c : Nat) (hm : (16384 : Int) < (m : Int)) (w : World) :
    Calls Try.prog 10 #[.agg #[.int .i64 n, .slice a m c]] w fun e w' => e = .returned (.int .i64 5) ∧ Below w.heap.size w w' := by
  have HB1 := Lib.hid ((Below.refl w.heap.size w).alloc (Nat.le_refl _) (.cells #[.int .i64 n, .slice a m c] 24))
  go_enter Try.func10, Try.ntmps10
  go_wp2
  go_ret
  exact ⟨rfl, HB1.out⟩
set_option maxHeartbeats 1000000 in
theorem rright_none (n : Int) (h1 : 1 ≤ n) (h2 : n ≤ 4096) (a : Option Addr) (c : Nat) (w : World) :
    Calls Try.prog 10 #[.agg #[.int .i64 n, .slice a 0 c]] w fun e w' => e = .returned (.int .i64 0) ∧ Below w.heap.size w w' := by
  have HB1 := Lib.hid ((Below.refl w.heap.size w).alloc (Nat.le_refl _) (.cells #[.int .i64 n, .slice a 0 c] 24))
  go_enter Try.func10, Try.ntmps10
  go_wp2
  refine wp_loop_rounds 1 ?_
  rw [rounds_succ]
  go_wp2
  refine wp_loop_rounds 1 ?_
  rw [rounds_succ]
  go_wp2
  go_ret
  exact ⟨rfl, HB1.out⟩
theorem rright_any (n : Int) {v : Value} {es : List Ed} (w : World) (h : EdgesAt w v es) :
    Calls Try.prog 10 #[.agg #[.int .i64 n, v]] w fun e w' => e = .returned (.int .i64 (rightF n es)) ∧ Below w.heap.size w w' := by
  by_cases hr : n < 1 ∨ 4096 < n
  · have e : rightF n es = 2 := by unfold rightF; rw [if_pos hr]
    rw [e]
    exact rright_range n hr v w
  · obtain ⟨a, c, rfl, _, g⟩ := h
    by_cases hl : 16384 < es.length
    · have e : rightF n es = 5 := by unfold rightF; rw [if_neg hr, if_pos hl]
      rw [e]
      exact rright_big n (by omega) (by omega) a _ c (by omega) w
    · by_cases h0 : es.length = 0
      · obtain rfl := List.length_eq_zero_iff.1 h0
        have e : rightF n [] = 0 := by unfold rightF; rw [if_neg hr, if_neg hl]; rfl
        rw [e]
        exact rright_none n (by omega) (by omega) a c w
      · obtain ⟨b, off, rfl, hc⟩ := g (by omega)
        exact rright_some n es b off c _ rfl (by omega) (by omega) (by omega) w (Lib.hid hc)
theorem uw_add (a b : Nat) : IntKind.u64.wrap ((a : Int) + b) = (((a + b) % 18446744073709551616 : Nat) : Int) := by rw [← Int.natCast_add, IntKind.wrap_u64]; omega
/-- What all edges weigh. -/
def sumW (es : List Ed) : Nat := (es.map (·.w)).sum
def totalV (n : Int) (es : List Ed) : Nat := if rightF n es = 0 then sumW es % 18446744073709551616 else 0
theorem sumW_take (es : List Ed) {k : Nat} {e : Ed} (he : es[k]? = some e) : sumW (es.take (k + 1)) = sumW (es.take k) + e.w := by
  obtain ⟨hk, rfl⟩ := List.getElem?_eq_some_iff.1 he
  unfold sumW
  rw [List.take_succ_eq_append_getElem hk, List.map_append, List.sum_append]
  simp
set_option maxHeartbeats 1000000 in
theorem rtotal_some (n : Int) (es : List Ed) (b off c m : Nat) (hm : es.length = m) (hl : m ≤ 4000000) (hmc : m ≤ c) (w : World)
    (hc : Hid (∀ (j : Nat) e, es[j]? = some e → w.cell? ⟨b, off + j * 3, none⟩ = some (.int .i64 e.f) ∧ w.cell? ⟨b, off + j * 3 + 1, none⟩ = some (.int .i64 e.t) ∧ w.cell? ⟨b, off + j * 3 + 2, none⟩ = some (.int .u64 (e.w : Int)))) (h0 : 0 < m) :
    Calls Try.prog 21 #[.agg #[.int .i64 n, .slice (some ⟨b, off, none⟩) m c]] w fun e w' => e = .returned (.int .u64 (totalV n es : Nat)) ∧ Below w.heap.size w w' := by
  have HB1 := Lib.hid ((Below.refl w.heap.size w).alloc (Nat.le_refl _) (.cells #[.int .i64 n, .slice (some ⟨b, off, none⟩) m c] 24))
  have hE : ∀ W, Below w.heap.size w W → EdgesAt W (.slice (some ⟨b, off, none⟩) m c) es := fun W hW => by
    have h1 : EdgesAt w (.slice (some ⟨b, off, none⟩) m c) es := ⟨_, c, by rw [hm], by omega, fun _ => ⟨b, off, rfl, hc.out⟩⟩
    exact h1.on hW
  have HR := Lib.hid (fun W (hW : Below w.heap.size w W) => rright_any n W (hE W hW))
  clear hE
  generalize hF : rightF n es = F at HR
  have HT : Hid (totalV n es = if F = 0 then sumW es % 18446744073709551616 else 0) := Lib.hid (by unfold totalV; rw [hF])
  clear hF
  go_enter Try.func21, Try.ntmps21
  go_wp2
  go_loopw [3, 4] (fun s i wr => ∃ (k S : Nat), k ≤ m ∧ i = .int .i64 k ∧ s = .int .u64 (S : Nat) ∧ S < 18446744073709551616 ∧ Hid (S = sumW (es.take k) % 18446744073709551616 ∧ (0 < k → F = 0)) ∧ Hid (Below (w.alloc (.cells #[.int .i64 n, .slice (some ⟨b, off, none⟩) m c] 24)).heap.size (w.alloc (.cells #[.int .i64 n, .slice (some ⟨b, off, none⟩) m c] 24)) wr)) (fun _ i _ => m - (RowKit.intOf i).toNat)
  case atStart => exact ⟨0, 0, by omega, rfl, rfl, by omega, Lib.hid ⟨rfl, fun h => by omega⟩, Lib.hid (Below.refl _ _)⟩
  case round =>
    obtain ⟨k, S, hk, rfl, rfl, hS, HS, HB⟩ := hrel
    have c0 := cell_on HB.out (p := ⟨w.heap.size, 0, none⟩) (v := .int .i64 n) (by simp)
    have c1 := cell_on HB.out (p := ⟨w.heap.size, 1, none⟩) (v := .slice (some ⟨b, off, none⟩) m c) (by simp)
    have HBw := Lib.hid (HB1.out.trans (HB.out.mono (by simp)))
    by_cases hlt : k < m
    · by_cases hF : F = 0
      · subst hF
        have he0 : es[k]? = some (es[k]'(by omega)) := List.getElem?_eq_getElem (by omega)
        obtain ⟨⟨f, t, x⟩, he⟩ : ∃ e, es[k]'(by omega) = e := ⟨_, rfl⟩
        rw [he] at he0
        have e3 := cell_on HBw.out (hc.out k _ he0).2.2
        simp only at e3
        have HN := Lib.hid (sumW_take es he0)
        clear he he0
        go_wp2_with (go_at_call 10; refine (HR.out _ HBw.out).mono ?_; rintro e w1 ⟨rfl, hB⟩; have c1' := cell_on hB c1; have e3' := cell_on hB e3; have HB2 := Lib.hid hB; clear hB)
        have HS2 := Lib.hid (show (S + x) % 18446744073709551616 = sumW (es.take (k + 1)) % 18446744073709551616 from by rw [HN.out, HS.out.1]; omega)
        have hz : (S + x) % 18446744073709551616 < 18446744073709551616 := Nat.mod_lt _ (by decide)
        have hw2 := uw_add S x
        obtain ⟨S2, hS2⟩ : ∃ S2, (S + x) % 18446744073709551616 = S2 := ⟨_, rfl⟩
        rw [hS2] at HS2 hz hw2
        clear hS2 HN HS
        go_roundw
        case rel => exact ⟨k + 1, S2, by omega, by go_num, congrArg (Value.int .u64) hw2, hz, Lib.hid ⟨HS2.out, fun _ => by trivial⟩, Lib.hid (HB.out.trans (HB2.out.mono HB.out.size))⟩
        case measure => simp [RowKit.intOf] <;> omega
      · have hb : (F == 0) = false := by rw [beq_eq_false_iff_ne]; exact hF
        have HX : Hid (totalV n es = 0 ∧ S = 0) := Lib.hid ⟨by rw [HT.out, if_neg hF], by
          have h1 := HS.out
          have h2 : k = 0 := by
            rcases Nat.eq_zero_or_pos k with h | h
            · exact h
            · exact absurd (h1.2 h) hF
          rw [h1.1, h2]
          rfl⟩
        clear hF
        go_wp2_with (go_at_call 10; refine (HR.out _ HBw.out).mono ?_; rintro e w1 ⟨rfl, hB⟩; have HB2 := Lib.hid hB; clear hB)
        go_ret
        exact ⟨by rw [HX.out.1, HX.out.2]; rfl, on_trans HBw.out HB2.out⟩
    · obtain rfl : k = m := by omega
      have HX : Hid (totalV n es = S) := Lib.hid (by
        rw [HT.out, if_pos (HS.out.2 h0), HS.out.1, List.take_of_length_le (by omega)])
      go_wp2
      go_ret
      exact ⟨by rw [HX.out]; rfl, HBw.out⟩
end Go.Proofs.Ytcgijabnknemiaa
