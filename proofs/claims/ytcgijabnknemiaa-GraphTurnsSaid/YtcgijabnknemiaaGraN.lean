import Derived.Test.YtcgijabnknemiaaGraM
set_option linter.unusedVariables false
set_option linter.unusedSimpArgs false
namespace Go.Proofs.Ytcgijabnknemiaa
open Go.RowKit
/-- Sub: how many nodes, the edges, which they were. -/
def subOk (n : Int) (es : List Ed) (ks : List Bool) : Bool := decide (rightF n es = 0) && decide ((ks.length : Int) = n)
def subV (n : Int) (es : List Ed) (ks : List Bool) : Int × List Ed × List Int :=
  if subOk n es ks = true then (((rk ks n.toNat : Nat) : Int), subE ks es, natI (keptL ks n.toNat)) else (0, [], [])
theorem rsub_any (n : Int) {v u : Value} {es : List Ed} {ks : List Bool} (w : World) (h : EdgesAt w v es) (hk : BoolsAt w u ks) :
    Calls Try.prog 26 #[.agg #[.int .i64 n, v], u] w fun e w' => ∃ v1 v2, e = .returned (.tuple #[.agg #[.int .i64 (subV n es ks).1, v1], v2]) ∧ EdgesAt w' v1 (subV n es ks).2.1 ∧ IntsAt w' v2 (subV n es ks).2.2 ∧ Below w.heap.size w w' := by
  have HR := Lib.hid (fun W (hB : Below w.heap.size w W) => rright_any n W (h.on hB))
  obtain ⟨a, c, rfl, g⟩ := edgesAt_flat h
  obtain ⟨ka, kc, rfl, _, kg⟩ := hk
  unfold subV
  by_cases h1 : rightF n es = 0
  · by_cases h2 : (ks.length : Int) = n
    · rw [if_pos (by simp [subOk, h1, h2])]
      rw [h1] at HR
      obtain ⟨r1, r2, r3, r4⟩ := right_ends h1
      subst h2
      obtain ⟨kb, ko, rfl, kcell⟩ := kg (by omega)
      rw [Int.toNat_natCast]
      exact rsub_right ks.length es a es.length c rfl r3 (by omega) (by omega) (Lib.hid fun e he => ⟨(r4 e he).1, (r4 e he).2.1, (r4 e he).2.2.1, (r4 e he).2.2.2.1⟩) ks kb ko kc rfl w (Lib.hid kcell) (Lib.hid g) HR
    · rw [if_neg (by simp [subOk, h2])]
      rw [h1] at HR
      exact (rsub_no n _ ka ks.length kc 0 (.inr ⟨rfl, h2⟩) w HR).mono fun e w' ⟨e1, e2⟩ => ⟨_, _, e1, edges_nil _, ints_nil _, e2⟩
  · rw [if_neg (by simp [subOk, h1])]
    exact (rsub_no n _ ka ks.length kc _ (.inl h1) w HR).mono fun e w' ⟨e1, e2⟩ => ⟨_, _, e1, edges_nil _, ints_nil _, e2⟩
/-- WHAT THE PACKAGE GRAPH ANSWERS, function by function: the premises under which the laws are walked. -/
structure GSpec : Prop where
  right : ∀ (n : Int) (v : Value) (es : List Ed) (W : World), EdgesAt W v es → Calls Try.prog 9 #[.agg #[.int .i64 n, v]] W fun e w' => e = .returned (.int .i64 (rightF n es)) ∧ Below W.heap.size W w'
  node : ∀ (n : Int) (v : Value) (i : Int) (W : World), Calls Try.prog 11 #[.agg #[.int .i64 n, v], .int .i64 i] W fun e w' => e = .returned (.bool (nodeB n i)) ∧ Below W.heap.size W w'
  edge : ∀ (n : Int) (a : Option Addr) (m c : Nat) (i : Int) (W : World), Calls Try.prog 12 #[.agg #[.int .i64 n, .slice a m c], .int .i64 i] W fun e w' => e = .returned (.bool (nodeB m i)) ∧ Below W.heap.size W w'
  same : ∀ (n1 n2 : Int) (v1 v2 : Value) (xs ys : List Ed) (W : World), xs.length ≤ 100000 → EdgesAt W v1 xs → EdgesAt W v2 ys → Calls Try.prog 13 #[.agg #[.int .i64 n1, v1], .agg #[.int .i64 n2, v2]] W fun e w' => e = .returned (.bool (decide (n1 = n2 ∧ xs = ys))) ∧ Below W.heap.size W w'
  clone : ∀ (n : Int) (v : Value) (es : List Ed) (W : World), es.length ≤ 100000 → EdgesAt W v es → Calls Try.prog 15 #[.agg #[.int .i64 n, v]] W fun e w' => ∃ v', e = .returned (.agg #[.int .i64 n, v']) ∧ EdgesAt w' v' es ∧ Below W.heap.size W w'
  rev : ∀ (n : Int) (v : Value) (es : List Ed) (W : World), EdgesAt W v es → Calls Try.prog 18 #[.agg #[.int .i64 n, v]] W fun e w' => ∃ v', e = .returned (.agg #[.int .i64 (revV n es).1, v']) ∧ EdgesAt w' v' (revV n es).2 ∧ Below W.heap.size W w'
  total : ∀ (n : Int) (v : Value) (es : List Ed) (W : World), es.length ≤ 100000 → EdgesAt W v es → Calls Try.prog 20 #[.agg #[.int .i64 n, v]] W fun e w' => e = .returned (.int .u64 (totalV n es : Nat)) ∧ Below W.heap.size W w'
  deg : ∀ (n : Int) (v : Value) (es : List Ed) (W : World), EdgesAt W v es → Calls Try.prog 16 #[.agg #[.int .i64 n, v]] W fun e w' => ∃ v1 v2, e = .returned (.tuple #[v1, v2]) ∧ IntsAt w' v1 (degV (·.f) n es) ∧ IntsAt w' v2 (degV (·.t) n es) ∧ Below W.heap.size W w'
  wth : ∀ (n : Int) (v : Value) (es : List Ed) (k : Int) (x : Nat) (W : World), EdgesAt W v es → Calls Try.prog 23 #[.agg #[.int .i64 n, v], .int .i64 k, .int .u64 (x : Int)] W fun e w' => ∃ v', e = .returned (.tuple #[.agg #[.int .i64 (withV n es k x).2.1, v'], .int .i64 (withV n es k x).1]) ∧ EdgesAt w' v' (withV n es k x).2.2 ∧ Below W.heap.size W w'
  sub : ∀ (n : Int) (v u : Value) (es : List Ed) (ks : List Bool) (W : World), EdgesAt W v es → BoolsAt W u ks → Calls Try.prog 25 #[.agg #[.int .i64 n, v], u] W fun e w' => ∃ v1 v2, e = .returned (.tuple #[.agg #[.int .i64 (subV n es ks).1, v1], v2]) ∧ EdgesAt w' v1 (subV n es ks).2.1 ∧ IntsAt w' v2 (subV n es ks).2.2 ∧ Below W.heap.size W w'
def lightB (n : Int) (m : Nat) : Bool := (decide (n ≤ 100) || decide (4096 < n)) && decide (m ≤ 300)
set_option maxHeartbeats 400000 in
theorem light_any (n : Int) (a : Option Addr) (m c : Nat) (w : World) :
    Calls Try.prog 7 #[.agg #[.int .i64 n, .slice a m c]] w fun e w' => e = .returned (.bool (lightB n m)) ∧ Below w.heap.size w w' := by
  have HB := Lib.hid ((Below.refl w.heap.size w).alloc (Nat.le_refl _) (.cells #[.int .i64 n, .slice a m c] 24))
  unfold lightB
  have hm : decide (m ≤ 300) = decide ((m : Int) ≤ 300) := by by_cases h : m ≤ 300 <;> simp [h] <;> omega
  rw [hm]
  by_cases h1 : n ≤ 100
  · by_cases h3 : (m : Int) ≤ 300
    all_goals
      go_enter Try.func7, Try.ntmps7
      go_wp2
      go_ret
      exact ⟨by simp [h1, h3] <;> omega, HB.out⟩
  · by_cases h2 : 4096 < n
    · by_cases h3 : (m : Int) ≤ 300
      all_goals
        go_enter Try.func7, Try.ntmps7
        go_wp2
        go_ret
        exact ⟨by simp [h1, h2, h3] <;> omega, HB.out⟩
    · go_enter Try.func7, Try.ntmps7
      go_wp2
      go_ret
      exact ⟨by simp [h1, h2] <;> omega, HB.out⟩
end Go.Proofs.Ytcgijabnknemiaa
