import Derived.Test.YtpbjknhoiehonaaAdjF
import Derived.RangeFuncWrites
import Derived.Maps.AppendAt
set_option linter.unusedVariables false
set_option linter.unusedSimpArgs false
namespace Go.Proofs.Ytpbjknhoiehonaa
open Go.RowKit Go.Shelf
attribute [local go_sem ↓] Go.wp_at_zero Go.wp_at_succ
attribute [local go_sem] Oper.semAt_some
/-- The numbers that have come, as values. -/
def numV (pre : List (Nat × Ed)) : List Value := pre.map fun y => .int .i64 (y.1 : Int)
theorem numV_snoc (pre : List (Nat × Ed)) (y : Nat × Ed) : numV (pre ++ [y]) = numV pre ++ [.int .i64 (y.1 : Int)] := by simp [numV]
theorem numV_len (pre : List (Nat × Ed)) : (numV pre).length = pre.length := by simp [numV]
theorem numV_pairs (es : List Ed) (row : List Nat) : numV (pairs es row) = natV row := by simp [numV, pairs, natV]
theorem ESt.keep {w A B : World} {R1 x off : Nat} {row : List Nat} {a : Option Addr} {m c : Nat} {es : List Ed} (hE : ESt R1 x off row (.slice a m c) es w) (hb : Below w.heap.size A B) (h : ESt R1 x off row (.slice a m c) es A) : ESt R1 x off row (.slice a m c) es B := by
  refine ⟨cell_lt hb (World.block_lt_of_cell? w _ hE.1) h.1, fun j i hj => cell_lt hb (World.block_lt_of_cell? w _ (hE.2.1 j i hj)) (h.2.1 j i hj), ?_⟩
  obtain ⟨a1, c1, e1, l1, g1⟩ := hE.2.2
  obtain ⟨a2, c2, e2, l2, g2⟩ := h.2.2
  refine ⟨a2, c2, e2, l2, fun h0 => ?_⟩
  obtain ⟨b1, o1, r1, k1⟩ := g1 h0
  obtain ⟨b2, o2, r2, k2⟩ := g2 h0
  refine ⟨b2, o2, r2, fun j e he => ?_⟩
  rw [e1] at e2
  injection e2 with e2
  rw [r1, r2] at e2
  injection e2 with e2
  injection e2 with q1 q2
  subst q1
  have hl : b1 < w.heap.size := World.block_lt_of_cell? w _ (k1 j e he).1
  exact ⟨cell_lt hb hl (k2 j e he).1, cell_lt hb hl (k2 j e he).2.1, cell_lt hb hl (k2 j e he).2.2⟩
set_option maxRecDepth 100000 in
set_option maxHeartbeats 2000000 in
/-- numbers, of what Each's closure yields. -/
theorem numbers_at (R R1 x off cr c m : Nat) (a : Option Addr) (row : List Nat) (es : List Ed) (hm : es.length = m) (hl : m ≤ 16384) (hrow : row.length ≤ 1000000) (hin : ∀ i ∈ row, i < m) (w : World)
    (hR : w.cell? ⟨R, 0, none⟩ = some (.slice (some ⟨x, off, none⟩) row.length cr)) (hE : ESt R1 x off row (.slice a m c) es w) :
    Calls Try.prog 25 #[.func (.func 37) #[] #[.pointer (some ⟨R, 0, none⟩), .pointer (some ⟨R1, 0, none⟩)]] w fun e w' => ∃ u, e = .returned u ∧ w'.ownsRow w.heap.size 3 1 u row.length (natV row) ∧ Below w.heap.size w w' := by
  obtain ⟨i0, hi, hz0, hz1, hz2⟩ := info_parts infoInt
  refine (callsIn_wide (n := 4)).1 ?_
  refine callsIn_of_wp_marks Try.func25 rfl trivial ?_ rfl
  simp only [Try.ntmps25, List.size_toArray, List.length_cons, List.length_nil, Nat.reduceAdd, Nat.reduceSub, Array.replicate_succ, Array.replicate_zero, List.push_toArray, List.append_toArray, List.nil_append, List.cons_append]
  have bO := Boxed.new w 32 (.slice none 0 0)
  have hB0 : Below w.heap.size w (w.alloc (.cells #[.slice none 0 0] 32)) := (Below.refl _ w).alloc (Nat.le_refl _) _
  gi_wp2
  refine wpIn_rangeFunc_ownG (F := Fence.wide) (n := 4) rfl (by omega) (gf := 37) (lb := #[.pointer (some ⟨R, 0, none⟩), .pointer (some ⟨R1, 0, none⟩)]) rfl trivial (enters_of Try.func37 (by kernel_rfl) rfl)
    (each_stops Fence.wide 3 trivial rfl (by omega) R R1 x off cr c m a row es hm hl hrow hin (Below w.heap.size) (fun A B hb h => hE.keep hb h) _ (cell_on hB0 hR) (hE.on hB0)) belowK_t (belowK_b (by simp)) (Below.refl _ _) (fun _ => rfl)
    (fun pre W => (∃ v, Boxed W w.heap.size 32 v ∧ W.ownsRow w.heap.size 3 1 v pre.length (numV pre) ∧ True) ∧ Below w.heap.size w W)
    (fun _ _ _ => False)
    (OwnFrom.and (Own.from (holdsRow_own w.heap.size w.heap.size 32 3 1 (fun pre => pre.length) (fun pre => numV pre) (fun _ _ => True)) _) (ownFrom_below (Nat.le_refl _) (by simp)))
    (fun _ _ _ _ _ hs _ _ => hs)
    ⟨⟨_, bO, World.ownsRow_nil _ _ _ _, trivial⟩, hB0⟩
    (fun y => { tmps := #[.func (.func 37) #[] #[.pointer (some ⟨R, 0, none⟩), .pointer (some ⟨R1, 0, none⟩)], undef, .slice none 0 0, .pointer (some ⟨w.heap.size, 0, none⟩), .int .i64 (y.1 : Int), .func (.func 37) #[] #[.pointer (some ⟨R, 0, none⟩), .pointer (some ⟨R1, 0, none⟩)], .int .i64 (y.1 : Int), .agg #[.int .i64 y.2.f, .int .i64 y.2.t, .int .u64 (y.2.w : Int)], undef, undef, undef, undef, undef], defers := [] }) ?assign ?body ?done ?stop
  case assign =>
    intro l y W K hK
    dsimp only [encE]
    gi_wp2
    exact hK
  case body =>
    rintro l pre y W ⟨⟨v, hv, hrw, _⟩, hB⟩ hlt
    have hc := hv.cell
    gi_wp2_with (gi_at_builtin; refine wpListIn_append_own _ rfl _ _ 32 rfl w.heap.size 3 i0 (.int .i64 0) 1 8 Try.underlying32 hi hz0 hz1 hz2 rfl (by decide) _ _ _ rfl (hrw.alloc _) ⟨W.heap.size, 0, none⟩ 1 1 [.int .i64 (y.1 : Int)] rfl rfl (cell_one_new _ _ _) (by simp [Value.oneCell']) (by unfold maxLen; omega) (by omega) (by have := hB.size; simp; omega) ?_; intro v' w1 hown' hgrow _; obtain ⟨g', cap', rfl⟩ := ownsRow_succ hown'; obtain ⟨hv1, hv2, hr2, hk2, hb2⟩ := hv.appended (by decide) hrw hB.size (Nat.le_refl _) hown' hgrow; have hc1 := hv1.cell; have hf1 := hv1.frozen)
    exact ⟨hk2.from _, hb2, ⟨_, hv2, by rw [numV_snoc, List.length_append]; simpa using hr2, trivial⟩, hB.trans hb2⟩
  case done =>
    rintro D ys W hD rfl ⟨⟨v, hv, hrw, _⟩, hB⟩ hK
    have hc := hv.cell
    gi_wp2
    refine ⟨by simp, .inl ⟨_, _, rfl, run_takeDeferred hK, ?_⟩⟩
    refine ⟨_, results_tmp rfl _ _ _, v, rfl, ?_, hB.trans (belowK_b (w := w) (Nat.le_refl _) W D _ _ (by simp at hD; omega) hK rfl rfl)⟩
    have h2 := ownsRow_putObj hrw (.deferred none) hK rfl
    rw [numV_pairs] at h2
    simpa [pairs] using h2
  case stop =>
    rintro D c pre W _ _ h _
    exact h.elim
end Go.Proofs.Ytpbjknhoiehonaa
