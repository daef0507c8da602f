import Derived.Test.YtifljelphniipaaGraJ
set_option linter.unusedVariables false
set_option linter.unusedSimpArgs false
namespace Go.Proofs.Ytifljelphniipaa
open Go.RowKit
/-- With: the fault, and the graph's nodes and edges. -/
def withV (n : Int) (es : List Ed) (k : Int) (x : Nat) : Int × Int × List Ed :=
  if rightF n es ≠ 0 then (1, 0, []) else if k < 0 ∨ (es.length : Int) ≤ k then (8, 0, []) else if weightB x = true then (0, n, es.modify k.toNat fun e => ⟨e.f, e.t, x⟩) else (2, 0, [])
/-- Reverse: the nodes and the edges. -/
def revV (n : Int) (es : List Ed) : Int × List Ed := if rightF n es = 0 then (n, es.map turnE) else (0, [])
def degV (p : Ed → Int) (n : Int) (es : List Ed) : List Int := if rightF n es = 0 then cntL n.toNat p es else []
/-- highroadref01.Same at any two slices of ints. -/
theorem isame_none (a1 a2 : Option Addr) (c1 c2 : Nat) (w : World) :
    Calls Try.prog 13 #[.slice a1 0 c1, .slice a2 0 c2] w fun e w' => e = .returned (.bool true) ∧ Below w.heap.size w w' := by
  go_enter Try.func13, Try.ntmps13
  go_wp2
  refine wp_loop_rounds 1 ?_
  rw [rounds_succ]
  go_wp2
  go_ret
  exact ⟨rfl, Below.refl _ _⟩
theorem isame_len (a1 a2 : Option Addr) (m1 m2 c1 c2 : Nat) (h : m1 ≠ m2) (w : World) :
    Calls Try.prog 13 #[.slice a1 m1 c1, .slice a2 m2 c2] w fun e w' => e = .returned (.bool false) ∧ Below w.heap.size w w' := by
  have hm : ((m1 : Int) != (m2 : Int)) = true := by rw [bne_iff_ne]; omega
  go_enter Try.func13, Try.ntmps13
  go_wp2
  go_ret
  exact ⟨rfl, Below.refl _ _⟩
theorem isame_any {v1 v2 : Value} {xs ys : List Int} (hl : xs.length ≤ 4000000) (w : World) (h1 : IntsAt w v1 xs) (h2 : IntsAt w v2 ys) :
    Calls Try.prog 13 #[v1, v2] w fun e w' => e = .returned (.bool (decide (xs = ys))) ∧ Below w.heap.size w w' := by
  obtain ⟨a1, c1, rfl, _, g1⟩ := h1
  obtain ⟨a2, c2, rfl, _, g2⟩ := h2
  by_cases hlen : xs.length = ys.length
  · by_cases h0 : xs.length = 0
    · have e1 := List.length_eq_zero_iff.1 h0
      have e2 := List.length_eq_zero_iff.1 (hlen ▸ h0 : ys.length = 0)
      subst e1 e2
      exact isame_none a1 a2 c1 c2 w
    · obtain ⟨b1, o1, rfl, k1⟩ := g1 (by omega)
      obtain ⟨b2, o2, rfl, k2⟩ := g2 (by omega)
      exact isame_some b1 o1 c1 b2 o2 c2 xs ys hlen hl w (Lib.hid k1) (Lib.hid k2)
  · have e : decide (xs = ys) = false := decide_eq_false fun h => hlen (by rw [h])
    rw [e]
    exact isame_len a1 a2 _ _ c1 c2 hlen w
end Go.Proofs.Ytifljelphniipaa
