import Derived.Test.YtifljelphniipaaGraB
set_option linter.unusedVariables false
set_option linter.unusedSimpArgs false
namespace Go.Proofs.Ytifljelphniipaa
open Go.RowKit
set_option maxHeartbeats 1000000 in
theorem rright_range (n : Int) (h : n < 1 ∨ 4096 < n) (E : Value) (w : World) :
    Calls Try.prog 31 #[.agg #[.int .i64 n, E]] w fun e w' => e = .returned (.int .i64 2) ∧ Below w.heap.size w w' := by
  have HB1 := Lib.hid ((Below.refl w.heap.size w).alloc (Nat.le_refl _) (.cells #[.int .i64 n, E] 24))
  have hd : n < 1 ∨ (1 ≤ n ∧ 4096 < n) := by omega
  clear h
  rcases hd with h | ⟨h, h'⟩
  all_goals
    go_enter Try.func31, Try.ntmps31
    go_wp2
    go_ret
    exact ⟨rfl, HB1.out⟩
set_option maxHeartbeats 1000000 in
theorem rright_big (n : Int) (h1 : 1 ≤ n) (h2 : n ≤ 4096) (a : Option Addr) (m c : Nat) (hm : (16384 : Int) < (m : Int)) (w : World) :
    Calls Try.prog 31 #[.agg #[.int .i64 n, .slice a m c]] w fun e w' => e = .returned (.int .i64 5) ∧ Below w.heap.size w w' := by
  have HB1 := Lib.hid ((Below.refl w.heap.size w).alloc (Nat.le_refl _) (.cells #[.int .i64 n, .slice a m c] 24))
  go_enter Try.func31, Try.ntmps31
  go_wp2
  go_ret
  exact ⟨rfl, HB1.out⟩
set_option maxHeartbeats 1000000 in
theorem rright_none (n : Int) (h1 : 1 ≤ n) (h2 : n ≤ 4096) (a : Option Addr) (c : Nat) (w : World) :
    Calls Try.prog 31 #[.agg #[.int .i64 n, .slice a 0 c]] w fun e w' => e = .returned (.int .i64 0) ∧ Below w.heap.size w w' := by
  have HB1 := Lib.hid ((Below.refl w.heap.size w).alloc (Nat.le_refl _) (.cells #[.int .i64 n, .slice a 0 c] 24))
  go_enter Try.func31, Try.ntmps31
  go_wp2
  refine wp_loop_rounds 1 ?_
  rw [rounds_succ]
  go_wp2
  refine wp_loop_rounds 1 ?_
  rw [rounds_succ]
  go_wp2
  go_ret
  exact ⟨rfl, HB1.out⟩
theorem gright_any (n : Int) {v : Value} {es : List Ed} (w : World) (h : EdgesAt w v es) :
    Calls Try.prog 31 #[.agg #[.int .i64 n, v]] w fun e w' => e = .returned (.int .i64 (rightF n es)) ∧ Below w.heap.size w w' := by
  by_cases hr : n < 1 ∨ 4096 < n
  · have e : rightF n es = 2 := by unfold rightF; rw [if_pos hr]
    rw [e]
    exact rright_range n hr v w
  · obtain ⟨a, c, rfl, _, g⟩ := h
    by_cases hl : 16384 < es.length
    · have e : rightF n es = 5 := by unfold rightF; rw [if_neg hr, if_pos hl]
      rw [e]
      exact rright_big n (by omega) (by omega) a _ c (by omega) w
    · by_cases h0 : es.length = 0
      · obtain rfl := List.length_eq_zero_iff.1 h0
        have e : rightF n [] = 0 := by unfold rightF; rw [if_neg hr, if_neg hl]; rfl
        rw [e]
        exact rright_none n (by omega) (by omega) a c w
      · obtain ⟨b, off, rfl, hc⟩ := g (by omega)
        exact rright_some n es b off c _ rfl (by omega) (by omega) (by omega) w (Lib.hid hc)
theorem guw_add (a b : Nat) : IntKind.u64.wrap ((a : Int) + b) = (((a + b) % 18446744073709551616 : Nat) : Int) := by rw [← Int.natCast_add, IntKind.wrap_u64]; omega
/-- What all edges weigh. -/
def sumW (es : List Ed) : Nat := (es.map (·.w)).sum
def totalV (n : Int) (es : List Ed) : Nat := if rightF n es = 0 then sumW es % 18446744073709551616 else 0
theorem sumW_take (es : List Ed) {k : Nat} {e : Ed} (he : es[k]? = some e) : sumW (es.take (k + 1)) = sumW (es.take k) + e.w := by
  obtain ⟨hk, rfl⟩ := List.getElem?_eq_some_iff.1 he
  unfold sumW
  rw [List.take_succ_eq_append_getElem hk, List.map_append, List.sum_append]
  simp
end Go.Proofs.Ytifljelphniipaa
