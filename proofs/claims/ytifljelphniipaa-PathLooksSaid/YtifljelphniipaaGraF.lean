import Derived.Test.YtifljelphniipaaGraE
import Derived.Deep.AppendLies
import Derived.Deep.DrawnRows
import Derived.OneCell
set_option linter.unusedVariables false
set_option linter.unusedSimpArgs false
namespace Go.Proofs.Ytifljelphniipaa
open Go.RowKit
theorem cell_lt {B : Nat} {W w1 : World} (hb : Below B W w1) {p : Addr} {v : Value} (hp : p.block < B) (h : W.cell? p = some v) : w1.cell? p = some v := by
  rw [hb.cell hp]; exact h
theorem frozen_lt {B : Nat} {W w1 : World} (hb : Below B W w1) {p : Addr} (hp : p.block < B) (h : W.frozen? p = false) : w1.frozen? p = false := by
  rw [hb.frozen hp]; exact h
/-- Edges as cells. -/
def edCells (e : Ed) : List Value := [.int .i64 e.f, .int .i64 e.t, .int .u64 (e.w : Int)]
def flat (es : List Ed) : List Value := es.flatMap edCells
theorem flat_len (es : List Ed) : (flat es).length = es.length * 3 := by
  unfold flat
  induction es with
  | nil => rfl
  | cons e es ih => rw [List.flatMap_cons, List.length_append, ih]; simp [edCells]; omega
theorem flat_snoc (es : List Ed) (e : Ed) : flat (es ++ [e]) = flat es ++ edCells e := by simp [flat]
theorem flat_at : ∀ (es : List Ed) (j : Nat) (e : Ed) (i : Nat), es[j]? = some e → i < 3 → (flat es)[j * 3 + i]? = (edCells e)[i]?
  | [], j, e, i, h, _ => by simp at h
  | x :: es, 0, e, i, h, hi => by
    obtain rfl : x = e := by simpa using h
    have h1 : flat (x :: es) = edCells x ++ flat es := rfl
    rw [h1, Nat.zero_mul, Nat.zero_add, List.getElem?_append_left (by simpa [edCells] using hi)]
  | x :: es, j + 1, e, i, h, hi => by
    have h0 : es[j]? = some e := by simpa using h
    have h1 : flat (x :: es) = edCells x ++ flat es := rfl
    have h2 : (edCells x).length = 3 := rfl
    rw [h1, List.getElem?_append_right (by omega), h2, show (j + 1) * 3 + i - 3 = j * 3 + i by omega]
    exact flat_at es j e i h0 hi
/-- A row of the call's own that owns edges reads as these. -/
theorem edges_own {w : World} {base : Nat} {ty : TypeId} {v : Value} {es : List Ed} (h : w.ownsRow base ty 3 v es.length (flat es)) : EdgesAt w v es := by
  have h' := h
  rcases h.2 with ⟨rfl, h0⟩ | ⟨g, cap, cur, rfl, _, _, hc, _⟩
  · exact ⟨none, 0, by rw [h0], by omega, fun h1 => by omega⟩
  · refine ⟨some ⟨g, 0, none⟩, cap, rfl, hc, fun h1 => ⟨g, 0, rfl, fun j e he => ?_⟩⟩
    have hj : j < es.length := (List.getElem?_eq_some_iff.1 he).1
    refine ⟨?_, ?_, ?_⟩
    · rw [h'.cellAt (0 + j * 3) (by omega)]; rw [show 0 + j * 3 = j * 3 + 0 by omega, flat_at es j e 0 he (by omega)]; rfl
    · rw [h'.cellAt (0 + j * 3 + 1) (by omega)]; rw [show 0 + j * 3 + 1 = j * 3 + 1 by omega, flat_at es j e 1 he (by omega)]; rfl
    · rw [h'.cellAt (0 + j * 3 + 2) (by omega)]; rw [show 0 + j * 3 + 2 = j * 3 + 2 by omega, flat_at es j e 2 he (by omega)]; rfl
/-- What lies below a row of the call's own stays as it was behind an append to it. -/
theorem grow_cell {w w' : World} {base : Nat} {ty : TypeId} {sz n : Nat} {v : Value} {xs : List Value} (hown : w.ownsRow base ty sz v n xs) (hg : w.grownBy w' v.ownBlock) {q : Addr} {u : Value} (hq : q.block < base) (hc : w.cell? q = some u) : w'.cell? q = some u := by
  rw [hg.cell_far q (World.block_lt_of_cell? w q hc) (fun e => by have := (hown.lt _ e.symm).1; omega)]
  exact hc
theorem grow_frozen {w w' : World} {base : Nat} {ty : TypeId} {sz n : Nat} {v : Value} {xs : List Value} (hown : w.ownsRow base ty sz v n xs) (hg : w.grownBy w' v.ownBlock) {q : Addr} {u : Value} (hq : q.block < base) (hc : w.cell? q = some u) (hf : w.frozen? q = false) : w'.frozen? q = false := by
  rw [hg.frozen_far q (World.block_lt_of_cell? w q hc) (fun e => by have := (hown.lt _ e.symm).1; omega)]
  exact hf
theorem owns_set {w : World} {base : Nat} {ty : TypeId} {sz n : Nat} {v : Value} {xs : List Value} (hown : w.ownsRow base ty sz v n xs) {q : Addr} (u : Value) (hq : q.block < base) : (w.setCell q u).ownsRow base ty sz v n xs := by
  refine ⟨hown.1, ?_⟩
  rcases hown.2 with h | ⟨g, cap, cur, h1, h2, h3, h4⟩
  · exact .inl h
  · refine .inr ⟨g, cap, cur, h1, h2, ?_, h4⟩
    rw [heap_setCell_other w q g u (by omega)]
    exact h3
theorem below_growE {w wr w' : World} {B e base sz n : Nat} {xs : List Value} {v : Value} (hB : Below B w wr) (hbB : B ≤ base) (hw : B ≤ wr.heap.size) (hown : wr.ownsRow base e sz v n xs) (hg : wr.grownBy w' v.ownBlock) : Below B w w' := by
  refine hB.grown hg hw fun j hj => ?_
  have := (hown.lt j hj).1
  omega
attribute [local go_sem ↓] Go.wp_at_zero Go.wp_at_succ
theorem infoE : (Try.prog.info? 56).map (fun i => (i.zero, i.size, i.bytes)) = some (some (.agg #[.int .i64 0, .int .i64 0, .int .u64 0]), 3, 24) := by kernel_rfl
theorem aggG (w : World) : (isAgg 24).run Try.prog w = .ok true w := by kernel_rfl
theorem sizeG (w : World) : (sizeOf 24).run Try.prog w = .ok 2 w := by kernel_rfl
theorem loadG {w : World} {g : Nat} {x y : Value} (h0 : w.cell? ⟨g, 0, none⟩ = some x) (h1 : w.cell? ⟨g, 1, none⟩ = some y) : (loadVar 24 ⟨g, 0, none⟩).run Try.prog w = .ok (.agg #[x, y]) w := by
  have hl : (loadCells ⟨g, 0, none⟩ 2).run Try.prog w = .ok #[x, y] w := by
    have := run_loadCells_list (P := Try.prog) w ⟨g, 0, none⟩ [x, y] (fun j v hv => by
      rw [Addr.add_lit, Nat.zero_add]
      match j, hv with
      | 0, hv => rw [h0]; simpa using hv
      | 1, hv => rw [h1]; simpa using hv
      | j + 2, hv => simp at hv)
    simpa using this
  simp [loadVar, Sem.run_bind, aggG, sizeG, hl]
/-- A result of type Graph that lies in a variable. -/
theorem resG {fn : Func} {p : Tmp} (h : fn.results = #[.cell p 24]) (tmps : Array Value) {w : World} {g : Nat} {x y : Value} (hp : tmps.getD p undef = .pointer (some ⟨g, 0, none⟩)) (h0 : w.cell? ⟨g, 0, none⟩ = some x) (h1 : w.cell? ⟨g, 1, none⟩ = some y) :
    (results fn tmps).run Try.prog w = .ok (.agg #[x, y]) w := by
  have hp' : tmps[p]?.getD undef = .pointer (some ⟨g, 0, none⟩) := by simpa using hp
  simp [results, h, hp', asAddr, loadG h0 h1]
/-- A graph, and another result. -/
theorem resGT {fn : Func} {p u : Tmp} (h : fn.results = #[.cell p 24, .tmp u]) (tmps : Array Value) {w : World} {g : Nat} {x y : Value} (hp : tmps.getD p undef = .pointer (some ⟨g, 0, none⟩)) (h0 : w.cell? ⟨g, 0, none⟩ = some x) (h1 : w.cell? ⟨g, 1, none⟩ = some y) :
    (results fn tmps).run Try.prog w = .ok (.tuple #[.agg #[x, y], tmps.getD u undef]) w := by
  have hp' : tmps[p]?.getD undef = .pointer (some ⟨g, 0, none⟩) := by simpa using hp
  simp [results, h, hp', asAddr, loadG h0 h1]
theorem resGTT {fn : Func} {p u u2 : Tmp} (h : fn.results = #[.cell p 24, .tmp u, .tmp u2]) (tmps : Array Value) {w : World} {g : Nat} {x y : Value} (hp : tmps.getD p undef = .pointer (some ⟨g, 0, none⟩)) (h0 : w.cell? ⟨g, 0, none⟩ = some x) (h1 : w.cell? ⟨g, 1, none⟩ = some y) :
    (results fn tmps).run Try.prog w = .ok (.tuple #[.agg #[x, y], tmps.getD u undef, tmps.getD u2 undef]) w := by
  have hp' : tmps[p]?.getD undef = .pointer (some ⟨g, 0, none⟩) := by simpa using hp
  simp [results, h, hp', asAddr, loadG h0 h1]
theorem set2_cells {w : World} {g : Nat} {u v : Value} (h0 : w.cell? ⟨g, 0, none⟩ = some u) (h1 : w.cell? ⟨g, 1, none⟩ = some v) (x y : Value) :
    ((w.setCell ⟨g, 0, none⟩ x).setCell ⟨g, 1, none⟩ y).cell? ⟨g, 0, none⟩ = some x ∧ ((w.setCell ⟨g, 0, none⟩ x).setCell ⟨g, 1, none⟩ y).cell? ⟨g, 1, none⟩ = some y :=
  ⟨by rw [World.cell?_setCell_other _ _ _ _ (by simp)]; exact World.cell?_setCell_same _ _ _ h0, World.cell?_setCell_same _ _ _ (by rw [World.cell?_setCell_other _ _ _ _ (by simp)]; exact h1)⟩
theorem far_cell {W w1 : World} {row : Option Nat} (hg : W.grownBy w1 row) {q : Addr} {u : Value} (hq : some q.block ≠ row) (h : W.cell? q = some u) : w1.cell? q = some u := by
  rw [hg.cell_far q (World.block_lt_of_cell? W _ h) hq]; exact h
theorem far_frozen {W w1 : World} {row : Option Nat} (hg : W.grownBy w1 row) {q : Addr} {u : Value} (hq : some q.block ≠ row) (h : W.cell? q = some u) (hf : W.frozen? q = false) : w1.frozen? q = false := by
  rw [hg.frozen_far q (World.block_lt_of_cell? W _ h) hq]; exact hf
theorem slice_form {w : World} {base : Nat} {e : TypeId} {sz n : Nat} {v : Value} {xs : List Value} (h : w.ownsRow base e sz v n xs) : ∃ a c, v = .slice a n c := by
  rcases h.2 with ⟨h, h'⟩ | ⟨g, cap, cur, h, _⟩
  · exact ⟨none, 0, by rw [h, h']⟩
  · exact ⟨_, cap, h⟩
theorem owns_below {w w' : World} {B base : Nat} {e : TypeId} {sz n : Nat} {v : Value} {xs : List Value} (h : w.ownsRow base e sz v n xs) (hb : Below B w w') (hB : w.heap.size ≤ B) : w'.ownsRow base e sz v n xs := by
  refine ⟨h.1, ?_⟩
  rcases h.2 with h1 | ⟨g, cap, cur, h1, h2, h3, h4⟩
  · exact .inl h1
  · have hg : g < w.heap.size := (Array.getElem?_eq_some_iff.1 h3).1
    exact .inr ⟨g, cap, cur, h1, h2, by rw [hb.block g (by omega)]; exact h3, h4⟩
theorem edges_nil (w : World) : EdgesAt w (.slice none 0 0) [] := ⟨none, 0, rfl, Nat.le_refl _, fun h => absurd h (by simp)⟩
theorem edgesAt_flat {w : World} {v : Value} {es : List Ed} (h : EdgesAt w v es) : ∃ a c, v = .slice a es.length c ∧ (0 < es.length → ∃ b off, a = some ⟨b, off, none⟩ ∧ ∀ (j : Nat) e, es[j]? = some e → w.cell? ⟨b, off + j * 3, none⟩ = some (.int .i64 e.f) ∧ w.cell? ⟨b, off + j * 3 + 1, none⟩ = some (.int .i64 e.t) ∧ w.cell? ⟨b, off + j * 3 + 2, none⟩ = some (.int .u64 (e.w : Int))) := by
  obtain ⟨a, c, rfl, _, h⟩ := h
  exact ⟨a, c, rfl, h⟩
theorem ints_nil (w : World) : IntsAt w (.slice none 0 0) [] := ⟨none, 0, rfl, Nat.le_refl _, fun h => absurd h (by simp)⟩
/-- What a right graph's edges are. -/
theorem right_ends {n : Int} {es : List Ed} (h : rightF n es = 0) : 1 ≤ n ∧ n ≤ 4096 ∧ es.length ≤ 16384 ∧ (∀ e ∈ es, 0 ≤ e.f ∧ e.f < n ∧ 0 ≤ e.t ∧ e.t < n ∧ e.f ≠ e.t ∧ 1 ≤ e.w ∧ e.w ≤ 4294967296) := by
  unfold rightF at h
  split at h
  · cases h
  · rename_i h1
    split at h
    · cases h
    · rename_i h2
      split at h
      · rename_i h3
        split at h
        · rename_i h4
          refine ⟨by omega, by omega, by omega, fun e he => ?_⟩
          have a := List.all_eq_true.1 h3 e he
          have b := List.all_eq_true.1 h4 e he
          simp [endsB, nodeB, weightB] at a b
          omega
        · cases h
      · cases h
end Go.Proofs.Ytifljelphniipaa
