import Derived.Test.YtcgijabnknemiaaGraE
import Derived.Deep.AppendLies
import Derived.Deep.DrawnRows
set_option linter.unusedVariables false
set_option linter.unusedSimpArgs false
namespace Go.Proofs.Ytcgijabnknemiaa
open Go.RowKit
theorem cell_lt {B : Nat} {W w1 : World} (hb : Below B W w1) {p : Addr} {v : Value} (hp : p.block < B) (h : W.cell? p = some v) : w1.cell? p = some v := by
  rw [hb.cell hp]; exact h
theorem frozen_lt {B : Nat} {W w1 : World} (hb : Below B W w1) {p : Addr} (hp : p.block < B) (h : W.frozen? p = false) : w1.frozen? p = false := by
  rw [hb.frozen hp]; exact h
/-- Edges as cells. -/
def edCells (e : Ed) : List Value := [.int .i64 e.f, .int .i64 e.t, .int .u64 (e.w : Int)]
def flat (es : List Ed) : List Value := es.flatMap edCells
theorem flat_len (es : List Ed) : (flat es).length = es.length * 3 := by
  unfold flat
  induction es with
  | nil => rfl
  | cons e es ih => rw [List.flatMap_cons, List.length_append, ih]; simp [edCells]; omega
theorem flat_snoc (es : List Ed) (e : Ed) : flat (es ++ [e]) = flat es ++ edCells e := by simp [flat]
theorem flat_at : ∀ (es : List Ed) (j : Nat) (e : Ed) (i : Nat), es[j]? = some e → i < 3 → (flat es)[j * 3 + i]? = (edCells e)[i]?
  | [], j, e, i, h, _ => by simp at h
  | x :: es, 0, e, i, h, hi => by
    obtain rfl : x = e := by simpa using h
    have h1 : flat (x :: es) = edCells x ++ flat es := rfl
    rw [h1, Nat.zero_mul, Nat.zero_add, List.getElem?_append_left (by simpa [edCells] using hi)]
  | x :: es, j + 1, e, i, h, hi => by
    have h0 : es[j]? = some e := by simpa using h
    have h1 : flat (x :: es) = edCells x ++ flat es := rfl
    have h2 : (edCells x).length = 3 := rfl
    rw [h1, List.getElem?_append_right (by omega), h2, show (j + 1) * 3 + i - 3 = j * 3 + i by omega]
    exact flat_at es j e i h0 hi
/-- A row of the call's own that owns edges reads as these. -/
theorem edges_own {w : World} {base : Nat} {ty : TypeId} {v : Value} {es : List Ed} (h : w.ownsRow base ty 3 v es.length (flat es)) : EdgesAt w v es := by
  have h' := h
  rcases h.2 with ⟨rfl, h0⟩ | ⟨g, cap, cur, rfl, _, _, hc, _⟩
  · exact ⟨none, 0, by rw [h0], by omega, fun h1 => by omega⟩
  · refine ⟨some ⟨g, 0, none⟩, cap, rfl, hc, fun h1 => ⟨g, 0, rfl, fun j e he => ?_⟩⟩
    have hj : j < es.length := (List.getElem?_eq_some_iff.1 he).1
    refine ⟨?_, ?_, ?_⟩
    · rw [h'.cellAt (0 + j * 3) (by omega)]; rw [show 0 + j * 3 = j * 3 + 0 by omega, flat_at es j e 0 he (by omega)]; rfl
    · rw [h'.cellAt (0 + j * 3 + 1) (by omega)]; rw [show 0 + j * 3 + 1 = j * 3 + 1 by omega, flat_at es j e 1 he (by omega)]; rfl
    · rw [h'.cellAt (0 + j * 3 + 2) (by omega)]; rw [show 0 + j * 3 + 2 = j * 3 + 2 by omega, flat_at es j e 2 he (by omega)]; rfl
/-- What lies below a row of the call's own stays as it was behind an append to it. -/
theorem grow_cell {w w' : World} {base : Nat} {ty : TypeId} {sz n : Nat} {v : Value} {xs : List Value} (hown : w.ownsRow base ty sz v n xs) (hg : w.grownBy w' v.ownBlock) {q : Addr} {u : Value} (hq : q.block < base) (hc : w.cell? q = some u) : w'.cell? q = some u := by
  rw [hg.cell_far q (World.block_lt_of_cell? w q hc) (fun e => by have := (hown.lt _ e.symm).1; omega)]
  exact hc
theorem grow_frozen {w w' : World} {base : Nat} {ty : TypeId} {sz n : Nat} {v : Value} {xs : List Value} (hown : w.ownsRow base ty sz v n xs) (hg : w.grownBy w' v.ownBlock) {q : Addr} {u : Value} (hq : q.block < base) (hc : w.cell? q = some u) (hf : w.frozen? q = false) : w'.frozen? q = false := by
  rw [hg.frozen_far q (World.block_lt_of_cell? w q hc) (fun e => by have := (hown.lt _ e.symm).1; omega)]
  exact hf
theorem owns_set {w : World} {base : Nat} {ty : TypeId} {sz n : Nat} {v : Value} {xs : List Value} (hown : w.ownsRow base ty sz v n xs) {q : Addr} (u : Value) (hq : q.block < base) : (w.setCell q u).ownsRow base ty sz v n xs := by
  refine ⟨hown.1, ?_⟩
  rcases hown.2 with h | ⟨g, cap, cur, h1, h2, h3, h4⟩
  · exact .inl h
  · refine .inr ⟨g, cap, cur, h1, h2, ?_, h4⟩
    rw [heap_setCell_other w q g u (by omega)]
    exact h3
theorem below_grow {w wr w' : World} {B e base sz n : Nat} {xs : List Value} {v : Value} (hB : Below B w wr) (hbB : B ≤ base) (hw : B ≤ wr.heap.size) (hown : wr.ownsRow base e sz v n xs) (hg : wr.grownBy w' v.ownBlock) : Below B w w' := by
  refine hB.grown hg hw fun j hj => ?_
  have := (hown.lt j hj).1
  omega
end Go.Proofs.Ytcgijabnknemiaa
