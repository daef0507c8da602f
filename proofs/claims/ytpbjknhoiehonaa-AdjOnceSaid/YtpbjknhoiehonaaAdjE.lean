import Derived.Test.YtpbjknhoiehonaaAdjO
import Derived.Test.YtpbjknhoiehonaaGraZh
set_option linter.unusedVariables false
set_option linter.unusedSimpArgs false
namespace Go.Proofs.Ytpbjknhoiehonaa
open Go.RowKit
attribute [local go_sem ↓] Go.wp_at_zero Go.wp_at_succ
/-- A row of edges' numbers below block B. -/
def RowAt (W : World) (B : Nat) (l : List Nat) (s : Value) : Prop := ∃ x off cap, s = .slice (some ⟨x, off, none⟩) l.length cap ∧ x < B ∧ ∀ (j i : Nat), l[j]? = some i → W.cell? ⟨x, off + j, none⟩ = some (.int .i64 (i : Int))
/-- The rows of all nodes, out or in. -/
def RowsAt (W : World) (B N : Nat) (back : Bool) (es : List Ed) (v : Value) : Prop := ∃ O c, v = .slice (some ⟨O, 0, none⟩) N c ∧ O < B ∧ ∀ u : Nat, u < N → ∃ s, W.cell? ⟨O, u, none⟩ = some s ∧ RowAt W B (rowL back u es) s
/-- Edges below block B. -/
def EdgesLow (W : World) (B : Nat) (v : Value) (es : List Ed) : Prop := ∃ a c, v = .slice a es.length c ∧ es.length ≤ c ∧
  (0 < es.length → ∃ b off, a = some ⟨b, off, none⟩ ∧ b < B ∧ ∀ (j : Nat) e, es[j]? = some e → W.cell? ⟨b, off + j * 3, none⟩ = some (.int .i64 e.f) ∧ W.cell? ⟨b, off + j * 3 + 1, none⟩ = some (.int .i64 e.t) ∧ W.cell? ⟨b, off + j * 3 + 2, none⟩ = some (.int .u64 (e.w : Int)))
theorem RowAt.lt {B : Nat} {W w1 : World} (hb : Below B W w1) {l : List Nat} {s : Value} (h : RowAt W B l s) : RowAt w1 B l s := by
  obtain ⟨x, off, cap, h1, h2, h3⟩ := h
  exact ⟨x, off, cap, h1, h2, fun j i hj => cell_lt hb h2 (h3 j i hj)⟩
theorem RowsAt.lt {B : Nat} {W w1 : World} (hb : Below B W w1) {N : Nat} {back : Bool} {es : List Ed} {v : Value} (h : RowsAt W B N back es v) : RowsAt w1 B N back es v := by
  obtain ⟨O, c, h1, h2, h3⟩ := h
  refine ⟨O, c, h1, h2, fun u hu => ?_⟩
  obtain ⟨s, e1, e2⟩ := h3 u hu
  exact ⟨s, cell_lt hb h2 e1, e2.lt hb⟩
theorem EdgesLow.lt {B : Nat} {W w1 : World} (hb : Below B W w1) {v : Value} {es : List Ed} (h : EdgesLow W B v es) : EdgesLow w1 B v es := by
  obtain ⟨a, c, h1, h2, h3⟩ := h
  refine ⟨a, c, h1, h2, fun h0 => ?_⟩
  obtain ⟨b, off, e1, e2, e3⟩ := h3 h0
  exact ⟨b, off, e1, e2, fun j e he => ⟨cell_lt hb e2 (e3 j e he).1, cell_lt hb e2 (e3 j e he).2.1, cell_lt hb e2 (e3 j e he).2.2⟩⟩
/-- AN Adj OF THIS GRAPH LIES AT p, all of it below block B. -/
def AHeld (W : World) (B : Nat) (p : Addr) (n : Int) (es : List Ed) : Prop := ∃ (P N : Nat) (E O I : Value), p = ⟨P, 0, none⟩ ∧ n = (N : Int) ∧ P < B ∧ es.length ≤ 16384 ∧ W.cell? ⟨P, 0, none⟩ = some (.int .i64 (N : Int)) ∧ W.cell? ⟨P, 1, none⟩ = some E ∧ W.cell? ⟨P, 2, none⟩ = some O ∧ W.cell? ⟨P, 3, none⟩ = some I ∧ EdgesLow W B E es ∧ RowsAt W B N false es O ∧ RowsAt W B N true es I
theorem AHeld.lt {W w1 : World} {B : Nat} {p : Addr} {n : Int} {es : List Ed} (hb : Below B W w1) (h : AHeld W B p n es) : AHeld w1 B p n es := by
  obtain ⟨P, N, E, O, I, h1, h2, h3, h4, c0, c1, c2, c3, g1, g2, g3⟩ := h
  exact ⟨P, N, E, O, I, h1, h2, h3, h4, cell_lt hb h3 c0, cell_lt hb h3 c1, cell_lt hb h3 c2, cell_lt hb h3 c3, g1.lt hb, g2.lt hb, g3.lt hb⟩
theorem agg2 (w : World) (x y : Value) (T : TypeId) : (w.alloc (.cells #[x, y] T)).cell? ⟨w.heap.size, 0, none⟩ = some x ∧ (w.alloc (.cells #[x, y] T)).cell? ⟨w.heap.size, 1, none⟩ = some y := by simp
set_option maxHeartbeats 400000 in
theorem kept_nil (w : World) : Calls Try.prog 27 #[.pointer none] w fun e w' => e = .returned (.agg #[.int .i64 0, .slice none 0 0]) ∧ Below w.heap.size w w' := by
  have HB := Lib.hid ((Below.refl w.heap.size w).alloc (Nat.le_refl _) (.cells #[.int .i64 0, .slice none 0 0] 24))
  go_enter Try.func27, Try.ntmps27
  go_wp2
  have h2 := agg2 w (.int .i64 0) (.slice none 0 0) 24
  exact bodyPost_ret_by (resG rfl _ rfl h2.1 h2.2) rfl ⟨rfl, HB.out⟩
set_option maxHeartbeats 400000 in
theorem kept_at (P : Nat) (n : Int) (a : Option Addr) (m c : Nat) (w : World) (c0 : w.cell? ⟨P, 0, none⟩ = some (.int .i64 n)) (c1 : w.cell? ⟨P, 1, none⟩ = some (.slice a m c)) :
    Calls Try.prog 27 #[.pointer (some ⟨P, 0, none⟩)] w fun e w' => e = .returned (.agg #[.int .i64 n, .slice a m c]) ∧ Below w.heap.size w w' := by
  have HB := Lib.hid ((Below.refl w.heap.size w).alloc (Nat.le_refl _) (.cells #[.int .i64 n, .slice a m c] 24))
  have hb := (Below.refl w.heap.size w).alloc (Nat.le_refl _) (.cells #[.int .i64 0, .slice none 0 0] 24)
  have q0 := cell_on hb c0
  have q1 := cell_on hb c1
  clear hb
  go_enter Try.func27, Try.ntmps27
  go_wp2
  have h2 := agg2 w (.int .i64 n) (.slice a m c) 24
  exact bodyPost_ret_by (resG rfl _ rfl h2.1 h2.2) rfl ⟨rfl, HB.out⟩
set_option maxHeartbeats 400000 in
theorem row_nil (v : Int) (back : Bool) (w : World) : Calls Try.prog 36 #[.pointer none, .int .i64 v, .bool back] w fun e w' => e = .returned (.slice none 0 0) ∧ Below w.heap.size w w' := by
  have HK := Lib.hid (fun W => kept_nil W)
  have HN := Lib.hid (fun W => pnode_any 0 v (.slice none 0 0) W)
  rw [show nodeB 0 v = false by unfold nodeB; simp] at HN
  have HB := Lib.hid (Below.refl w.heap.size w)
  go_enter Try.func36, Try.ntmps36
  go_wp2_with (first
    | (go_at_call 27; refine (HK.out _).mono ?_; rintro e w1 ⟨rfl, hB⟩; have HB := Lib.hid (on_trans HB.out hB); clear hB HK)
    | (go_at_call 30; refine (HN.out _).mono ?_; rintro e w2 ⟨rfl, hB⟩; have HB := Lib.hid (on_trans HB.out hB); clear hB HN))
  go_ret
  exact ⟨rfl, HB.out⟩
set_option maxHeartbeats 400000 in
theorem row_at (P N v : Nat) (hv : v < N) (back : Bool) (a : Option Addr) (m c O I x1 o1 l1 k1 x2 o2 l2 k2 co ci : Nat) (w : World)
    (c0 : w.cell? ⟨P, 0, none⟩ = some (.int .i64 (N : Int))) (c1 : w.cell? ⟨P, 1, none⟩ = some (.slice a m c))
    (c2 : w.cell? ⟨P, 2, none⟩ = some (.slice (some ⟨O, 0, none⟩) N co)) (c3 : w.cell? ⟨P, 3, none⟩ = some (.slice (some ⟨I, 0, none⟩) N ci))
    (c4 : w.cell? ⟨O, v, none⟩ = some (.slice (some ⟨x1, o1, none⟩) l1 k1)) (c5 : w.cell? ⟨I, v, none⟩ = some (.slice (some ⟨x2, o2, none⟩) l2 k2)) :
    Calls Try.prog 36 #[.pointer (some ⟨P, 0, none⟩), .int .i64 (v : Int), .bool back] w fun e w' => e = .returned (if back then .slice (some ⟨x2, o2, none⟩) l2 k2 else .slice (some ⟨x1, o1, none⟩) l1 k1) ∧ Below w.heap.size w w' := by
  have HK := Lib.hid (kept_at P N a m c w c0 c1)
  have HN := Lib.hid (fun W => pnode_any N v (.slice a m c) W)
  rw [show nodeB N v = true by unfold nodeB; simp; omega] at HN
  have hv0 : (0 : Int) ≤ (v : Int) := Int.natCast_nonneg _
  have hv1 : (v : Int) < (N : Int) := by omega
  cases back
  · go_enter Try.func36, Try.ntmps36
    go_wp2_with (first
      | (go_at_call 27; refine HK.out.mono ?_; rintro e w1 ⟨rfl, hB⟩; have HB := Lib.hid hB; clear HK)
      | (go_at_call 30; refine (HN.out _).mono ?_; rintro e w2 ⟨rfl, hB2⟩; have hBB := on_trans HB.out hB2; have HB := Lib.hid hBB; have d2 := cell_on hBB c2; have d4 := cell_on hBB c4; clear hB2 hB hBB HN))
    go_ret
    exact ⟨rfl, HB.out⟩
  · go_enter Try.func36, Try.ntmps36
    go_wp2_with (first
      | (go_at_call 27; refine HK.out.mono ?_; rintro e w1 ⟨rfl, hB⟩; have HB := Lib.hid hB; clear HK)
      | (go_at_call 30; refine (HN.out _).mono ?_; rintro e w2 ⟨rfl, hB2⟩; have hBB := on_trans HB.out hB2; have HB := Lib.hid hBB; have d3 := cell_on hBB c3; have d5 := cell_on hBB c5; clear hB2 hB hBB HN))
    go_ret
    exact ⟨rfl, HB.out⟩
set_option maxHeartbeats 400000 in
theorem each_at (p : Option Addr) (v : Int) (back : Bool) (s : Value) (n : Int) (a ar : Option Addr) (m c lr cr : Nat) (hs : s = .slice ar lr cr) (w : World)
    (HR : Hid (Calls Try.prog 36 #[.pointer p, .int .i64 v, .bool back] w fun e w' => e = .returned s ∧ Below w.heap.size w w'))
    (HK : Hid (∀ W, Below w.heap.size w W → Calls Try.prog 27 #[.pointer p] W fun e w' => e = .returned (.agg #[.int .i64 n, .slice a m c]) ∧ Below W.heap.size W w')) :
    Calls Try.prog 26 #[.pointer p, .int .i64 v, .bool back] w fun e w' => ∃ R : Nat, e = .returned (.func (.func 37) #[] #[.pointer (some ⟨R, 0, none⟩), .pointer (some ⟨R + 1, 0, none⟩)]) ∧ w'.cell? ⟨R, 0, none⟩ = some s ∧ w'.cell? ⟨R + 1, 0, none⟩ = some (.slice a m c) ∧ w.heap.size ≤ R ∧ Below w.heap.size w w' := by
  subst hs
  have hfld : ∀ W, (Instr.field 24 (.agg #[.int .i64 n, .slice a m c]) 1).run Try.prog W = .ok (.slice a m c) W := fun W => by rfl
  go_enter Try.func26, Try.ntmps26
  go_wp2_with (first
    | (go_at_call 36; refine HR.out.mono ?_; rintro e w1 ⟨rfl, hB⟩; have HB := Lib.hid hB; clear HR)
    | (go_at_call 27; refine (HK.out _ HB.out).mono ?_; rintro e w2 ⟨rfl, hB2⟩; have HB2 := Lib.hid (on_trans HB.out hB2); clear HB hB hB2 HK))
  go_ret
  exact ⟨w2.heap.size, rfl, by simp, by simp, HB2.out.size, (HB2.out.alloc HB2.out.size _).alloc (by have := HB2.out.size; simp; omega) _⟩
end Go.Proofs.Ytpbjknhoiehonaa
