import Derived.Test.YtifljelphniipaaPthJ
import Derived.Test.YtifljelphniipaaLig
set_option linter.unusedVariables false
set_option linter.unusedSimpArgs false
namespace Go.Proofs.Ytifljelphniipaa
open Go.RowKit
attribute [local go_sem ↓] Go.wp_at_zero Go.wp_at_succ
/-- WHAT THE PACKAGE PATH ANSWERS: the premises under which its laws are walked. -/
structure PathSpec : Prop where
  nodes : ∀ (n s : Int) (v u : Value) (es : List Ed) (l : List Int) (W : World), es.length ≤ 300 → l.length ≤ 200 → EdgesAt W v es → IntsAt W u l → Calls Try.prog 9 #[.agg #[.int .i64 n, v], .int .i64 s, u] W fun e w' => ∃ v', e = .returned (.tuple #[v', .bool (nodesO n es s l).isSome]) ∧ IntsAt w' v' ((nodesO n es s l).getD []) ∧ Below W.heap.size W w'
  is : ∀ (n s t : Int) (v u : Value) (es : List Ed) (l : List Int) (W : World), es.length ≤ 300 → l.length ≤ 200 → EdgesAt W v es → IntsAt W u l → Calls Try.prog 14 #[.agg #[.int .i64 n, v], .int .i64 s, .int .i64 t, u] W fun e w' => e = .returned (.bool (isF n es s t l)) ∧ Below W.heap.size W w'
  simple : ∀ (n s : Int) (v u : Value) (es : List Ed) (l : List Int) (W : World), es.length ≤ 300 → l.length ≤ 200 → EdgesAt W v es → IntsAt W u l → Calls Try.prog 16 #[.agg #[.int .i64 n, v], .int .i64 s, u] W fun e w' => e = .returned (.bool (simpF n es s l)) ∧ Below W.heap.size W w'
  weight : ∀ (n : Int) (v u : Value) (es : List Ed) (l : List Int) (W : World), es.length ≤ 300 → l.length ≤ 200 → EdgesAt W v es → IntsAt W u l → Calls Try.prog 11 #[.agg #[.int .i64 n, v], u] W fun e w' => e = .returned (.tuple #[.int .u64 ((weightO n es l).getD 0 : Nat), .bool (weightO n es l).isSome]) ∧ Below W.heap.size W w'
  offsets : ∀ (n : Int) (v u : Value) (es : List Ed) (l : List Int) (W : World), es.length ≤ 300 → l.length ≤ 200 → EdgesAt W v es → IntsAt W u l → Calls Try.prog 19 #[.agg #[.int .i64 n, v], u] W fun e w' => ∃ v', e = .returned v' ∧ NatsAt w' v' (offF n es l) ∧ Below W.heap.size W w'
  shared : ∀ (n : Int) (v u z : Value) (es : List Ed) (l r : List Int) (W : World), es.length ≤ 300 → l.length ≤ 200 → r.length ≤ 200 → EdgesAt W v es → IntsAt W u l → IntsAt W z r → Calls Try.prog 27 #[.agg #[.int .i64 n, v], u, z] W fun e w' => e = .returned (.int .u64 (sharedF n es l r : Nat)) ∧ Below W.heap.size W w'
  less : ∀ (v u : Value) (xs ys : List Int) (W : World), xs.length ≤ 200 → ys.length ≤ 200 → IntsAt W v xs → IntsAt W u ys → Calls Try.prog 22 #[v, u] W fun e w' => e = .returned (.int .i64 (lessF xs ys)) ∧ Below W.heap.size W w'
  cmp : ∀ (x y : Nat) (v u : Value) (xs ys : List Int) (W : World), xs.length ≤ 200 → ys.length ≤ 200 → IntsAt W v xs → IntsAt W u ys → Calls Try.prog 24 #[.agg #[v, .int .u64 (x : Int)], .agg #[u, .int .u64 (y : Int)]] W fun e w' => e = .returned (.int .i64 (cmpF x xs y ys)) ∧ Below W.heap.size W w'
  same : ∀ (x y : Nat) (v u : Value) (xs ys : List Int) (W : World), xs.length ≤ 200 → ys.length ≤ 200 → IntsAt W v xs → IntsAt W u ys → Calls Try.prog 26 #[.agg #[v, .int .u64 (x : Int)], .agg #[u, .int .u64 (y : Int)]] W fun e w' => e = .returned (.bool (decide (cmpF x xs y ys = 0))) ∧ Below W.heap.size W w'
  join : ∀ (x y : Nat) (v u : Value) (xs ys : List Int) (W : World), x < 18446744073709551616 → y < 18446744073709551616 → xs.length ≤ 200 → ys.length ≤ 200 → IntsAt W v xs → IntsAt W u ys → Calls Try.prog 21 #[.agg #[v, .int .u64 (x : Int)], .agg #[u, .int .u64 (y : Int)]] W fun e w' => ∃ v', e = .returned (.agg #[v', .int .u64 ((x + y) % 18446744073709551616 : Nat)]) ∧ IntsAt w' v' (xs ++ ys) ∧ Below W.heap.size W w'
theorem one_int8 (w : World) (T : TypeId) (x : Int) : IntsAt (w.alloc (.cells #[.int .i64 x] T)) (.slice (some ⟨w.heap.size, 0, none⟩) 1 1) [x] :=
  ⟨_, 1, rfl, Nat.le_refl _, fun _ => ⟨w.heap.size, 0, rfl, fun j y hy => by
    match j, hy with
    | 0, hy => obtain rfl : x = y := by simpa using hy
               simp
    | j + 1, hy => simp at hy⟩⟩
theorem two_int8 (w : World) (T : TypeId) (x z : Int) : IntsAt (w.alloc (.cells #[.int .i64 x, .int .i64 z] T)) (.slice (some ⟨w.heap.size, 0, none⟩) 2 2) [x, z] :=
  ⟨_, 2, rfl, Nat.le_refl _, fun _ => ⟨w.heap.size, 0, rfl, fun j y hy => by
    match j, hy with
    | 0, hy => obtain rfl : x = y := by simpa using hy
               simp
    | 1, hy => obtain rfl : z = y := by simpa using hy
               simp
    | j + 2, hy => simp at hy⟩⟩
theorem pair_int8 (w : World) (T : TypeId) (x : Int) : IntsAt ((w.alloc (.cells #[.int .i64 x] T)).alloc (.cells #[.int .i64 0, .int .i64 1] T)) (.slice (some ⟨w.heap.size, 0, none⟩) 1 1) [x] ∧ IntsAt ((w.alloc (.cells #[.int .i64 x] T)).alloc (.cells #[.int .i64 0, .int .i64 1] T)) (.slice (some ⟨w.heap.size + 1, 0, none⟩) 2 2) [0, 1] ∧ Below w.heap.size w ((w.alloc (.cells #[.int .i64 x] T)).alloc (.cells #[.int .i64 0, .int .i64 1] T)) := by
  refine ⟨(one_int8 w T x).on ((Below.refl _ _).alloc (Nat.le_refl _) _), ?_, ((Below.refl _ _).alloc (Nat.le_refl _) _).alloc (by simp) _⟩
  have := two_int8 (w.alloc (.cells #[.int .i64 x] T)) T 0 1
  rwa [World.size_alloc] at this
set_option maxHeartbeats 2000000 in
theorem palive_any (S : PathSpec) (w : World) :
    Calls Try.prog 8 #[] w fun e w' => e = .returned (.bool true) ∧ Below w.heap.size w w' := by
  have HL1 := Lib.hid (fun W u v h1 h2 => S.less u v [0] [0, 1] W (by decide) (by decide) h1 h2)
  have HL2 := Lib.hid (fun W u v h1 h2 => S.less u v [2] [0, 1] W (by decide) (by decide) h1 h2)
  have HS := Lib.hid (fun W => S.same 3 3 (.slice none 0 0) (.slice none 0 0) [] [] W (by decide) (by decide) (ints_nil W) (ints_nil W))
  rw [show lessF [0] [0, 1] = -1 by decide] at HL1
  rw [show lessF [2] [0, 1] = 1 by decide] at HL2
  rw [show decide (cmpF 3 [] 3 [] = 0) = true by decide] at HS
  go_enter Try.func8, Try.ntmps8
  go_wp2_with (first
    | (go_at_call 22; refine (HL1.out _ _ _ (pair_int8 w _ 0).1 (pair_int8 w _ 0).2.1).mono ?_; rintro e w1 ⟨rfl, hB⟩; have HB1 := Lib.hid (on_trans (pair_int8 w 3 0).2.2 hB); clear hB HL1)
    | (go_at_call 22; refine (HL2.out _ _ _ (pair_int8 w1 _ 2).1 (pair_int8 w1 _ 2).2.1).mono ?_; rintro e w2 ⟨rfl, hB⟩; have HB2 := Lib.hid (on_trans (on_trans HB1.out (pair_int8 w1 3 2).2.2) hB); clear hB HL2)
    | (go_at_call 26; refine (HS.out _).mono ?_; rintro e w3 ⟨rfl, hB⟩; have HB3 := Lib.hid (on_trans HB2.out hB); clear hB HS))
  go_ret
  exact ⟨rfl, HB3.out⟩
end Go.Proofs.Ytifljelphniipaa
