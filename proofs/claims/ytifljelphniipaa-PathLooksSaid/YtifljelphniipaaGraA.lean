import Derived.Test.YtifljelphniipaaBas
import Derived.Test.YtifljelphniipaaRows
import Derived.WalkKit
import Derived.ProofKit
import Derived.OpenShut
import Derived.Lib.Hide
import Derived.WalkLawsBesides
import Derived.WalkSpells
import Derived.Laws.OwnMore
import Derived.OwnWalk
import Derived.BigQuiet
import Derived.Deep.QuietTactic
import Derived.RegionTactic
import Derived.Deep.RegionHeld3
set_option linter.unusedVariables false
set_option linter.unusedSimpArgs false
namespace Go.Proofs.Ytifljelphniipaa
open Go.RowKit
/-- An edge: from, to, weight. -/
structure Ed where
  f : Int
  t : Int
  w : Nat
deriving DecidableEq
/-- A SLICE VALUE THAT READS AS THESE EDGES: three cells each. -/
def EdgesAt (w : World) (v : Value) (es : List Ed) : Prop := ∃ (a : Option Addr) (c : Nat), v = .slice a es.length c ∧ es.length ≤ c ∧
  (0 < es.length → ∃ b off, a = some ⟨b, off, none⟩ ∧ ∀ j e, es[j]? = some e → w.cell? ⟨b, off + j * 3, none⟩ = some (.int .i64 e.f) ∧ w.cell? ⟨b, off + j * 3 + 1, none⟩ = some (.int .i64 e.t) ∧ w.cell? ⟨b, off + j * 3 + 2, none⟩ = some (.int .u64 (e.w : Int)))
theorem EdgesAt.on {W w1 : World} (hb : Below W.heap.size W w1) {v : Value} {es : List Ed} (h : EdgesAt W v es) : EdgesAt w1 v es := by
  obtain ⟨a, c, rfl, hc, h⟩ := h
  refine ⟨a, c, rfl, hc, fun h0 => ?_⟩
  obtain ⟨b, off, rfl, hcell⟩ := h h0
  exact ⟨b, off, rfl, fun j e he => ⟨cell_on hb (hcell j e he).1, cell_on hb (hcell j e he).2.1, cell_on hb (hcell j e he).2.2⟩⟩
def nodeB (n v : Int) : Bool := decide (0 ≤ v) && decide (v < n)
def weightB (w : Nat) : Bool := decide (1 ≤ w) && decide (w ≤ 4294967296)
set_option maxHeartbeats 400000 in
theorem rnode_any (n v : Int) (E : Value) (w : World) :
    Calls Try.prog 40 #[.agg #[.int .i64 n, E], .int .i64 v] w fun e w' => e = .returned (.bool (nodeB n v)) ∧ Below w.heap.size w w' := by
  unfold nodeB
  have HB := Lib.hid ((Below.refl w.heap.size w).alloc (Nat.le_refl _) (.cells #[.int .i64 n, E] 24))
  by_cases h1 : 0 ≤ v
  · by_cases h2 : v < n
    · rw [decide_eq_true h1, decide_eq_true h2]
      go_enter Try.func40, Try.ntmps40
      go_wp2
      go_ret
      exact ⟨by simp <;> omega, HB.out⟩
    · rw [decide_eq_true h1, decide_eq_false h2]
      go_enter Try.func40, Try.ntmps40
      go_wp2
      go_ret
      exact ⟨by simp <;> omega, HB.out⟩
  · rw [decide_eq_false h1]
    go_enter Try.func40, Try.ntmps40
    go_wp2
    go_ret
    exact ⟨by simp <;> omega, HB.out⟩
set_option maxHeartbeats 400000 in
theorem rweight_any (x : Nat) (w : World) :
    Calls Try.prog 41 #[.int .u64 x] w fun e w' => e = .returned (.bool (weightB x)) ∧ w' = w := by
  unfold weightB
  by_cases h1 : 1 ≤ x
  · have hi1 : ((1 : Int) ≤ (x : Int)) := by omega
    by_cases h2 : x ≤ 4294967296
    · have hi2 : decide ((x : Int) ≤ 4294967296) = true := decide_eq_true (by omega)
      rw [decide_eq_true h1, decide_eq_true h2]
      clear h1 h2
      go_enter Try.func41, Try.ntmps41
      go_wp2
      go_ret
      exact ⟨by simp [hi2], rfl⟩
    · have hi2 : decide ((x : Int) ≤ 4294967296) = false := decide_eq_false (by omega)
      rw [decide_eq_true h1, decide_eq_false h2]
      clear h1 h2
      go_enter Try.func41, Try.ntmps41
      go_wp2
      go_ret
      exact ⟨by simp [hi2], rfl⟩
  · have hi1 : ¬ ((1 : Int) ≤ (x : Int)) := by omega
    rw [decide_eq_false h1]
    clear h1
    go_enter Try.func41, Try.ntmps41
    go_wp2
    go_ret
    exact ⟨by simp [hi1], rfl⟩
end Go.Proofs.Ytifljelphniipaa
