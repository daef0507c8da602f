import Derived.Test.YtifljelphniipaaGraI
import Derived.OneCell
set_option linter.unusedVariables false
set_option linter.unusedSimpArgs false
namespace Go.Proofs.Ytifljelphniipaa
open Go.RowKit
attribute [local go_sem ↓] Go.wp_at_zero Go.wp_at_succ
/-- The cells of edges lie so. -/
def FlatAt (w : World) (b off : Nat) (es : List Ed) : Prop := ∀ j u, (flat es)[j]? = some u → w.cell? ⟨b, off + j, none⟩ = some u
theorem FlatAt.on {W w1 : World} (hb : Below W.heap.size W w1) {b off : Nat} {es : List Ed} (h : FlatAt W b off es) : FlatAt w1 b off es := fun j u hu => cell_on hb (h j u hu)
theorem flat_of {w : World} {b off : Nat} {es : List Ed} (hc : ∀ (j : Nat) e, es[j]? = some e → w.cell? ⟨b, off + j * 3, none⟩ = some (.int .i64 e.f) ∧ w.cell? ⟨b, off + j * 3 + 1, none⟩ = some (.int .i64 e.t) ∧ w.cell? ⟨b, off + j * 3 + 2, none⟩ = some (.int .u64 (e.w : Int))) : FlatAt w b off es := fun j u hu => by
  have hj : j < (flat es).length := (List.getElem?_eq_some_iff.1 hu).1
  rw [flat_len] at hj
  have hq : j / 3 < es.length := by omega
  have he := List.getElem?_eq_getElem hq
  obtain ⟨h1, h2, h3⟩ := hc (j / 3) _ he
  have hm : j % 3 < 3 := by omega
  have hs := flat_at es (j / 3) _ (j % 3) he hm
  rw [show j / 3 * 3 + j % 3 = j by omega, hu] at hs
  have hr : j % 3 = 0 ∨ j % 3 = 1 ∨ j % 3 = 2 := by omega
  rcases hr with h | h | h
  · rw [h] at hs
    rw [show off + j = off + j / 3 * 3 by omega, h1]
    exact hs.symm
  · rw [h] at hs
    rw [show off + j = off + j / 3 * 3 + 1 by omega, h2]
    exact hs.symm
  · rw [h] at hs
    rw [show off + j = off + j / 3 * 3 + 2 by omega, h3]
    exact hs.symm
theorem flat_one (es : List Ed) : ∀ u ∈ flat es, u.oneCell' = true := by
  intro u hu
  unfold flat at hu
  obtain ⟨e, _, h⟩ := List.mem_flatMap.1 hu
  simp [edCells] at h
  rcases h with rfl | rfl | rfl <;> rfl
def WS (B : Nat) (n : Int) (E : Value) (b off : Nat) (es : List Ed) (w : World) : Prop := w.cell? ⟨B, 0, none⟩ = some (.int .i64 n) ∧ w.cell? ⟨B, 1, none⟩ = some E ∧ Hid (FlatAt w b off es)
theorem WS.on {B : Nat} {n : Int} {E : Value} {b off : Nat} {es : List Ed} {W w1 : World} (hb : Below W.heap.size W w1) (h : WS B n E b off es W) : WS B n E b off es w1 := ⟨cell_on hb h.1, cell_on hb h.2.1, Lib.hid (h.2.2.out.on hb)⟩
theorem WS.far {B : Nat} {n : Int} {E : Value} {b off : Nat} {es : List Ed} {W w1 : World} {row : Option Nat} (hg : W.grownBy w1 row) (hB : some B ≠ row) (hb : some b ≠ row) (h : WS B n E b off es W) : WS B n E b off es w1 :=
  ⟨by rw [hg.cell_far ⟨B, 0, none⟩ (World.block_lt_of_cell? W _ h.1) hB]; exact h.1, by rw [hg.cell_far ⟨B, 1, none⟩ (World.block_lt_of_cell? W _ h.2.1) hB]; exact h.2.1,
   Lib.hid fun j u hu => by have h0 := h.2.2.out j u hu; rw [hg.cell_far ⟨b, off + j, none⟩ (World.block_lt_of_cell? W _ h0) hb]; exact h0⟩
theorem WS.set2 {B : Nat} {n : Int} {E : Value} {b off : Nat} {es : List Ed} {W : World} {P i j : Nat} {u v : Value} (hB : B ≠ P) (hb : b ≠ P) (h : WS B n E b off es W) : WS B n E b off es ((W.setCell ⟨P, i, none⟩ u).setCell ⟨P, j, none⟩ v) :=
  ⟨by rw [World.cell?_setCell_other _ _ _ _ (fun e => hB (congrArg Addr.block e).symm), World.cell?_setCell_other _ _ _ _ (fun e => hB (congrArg Addr.block e).symm)]; exact h.1,
   by rw [World.cell?_setCell_other _ _ _ _ (fun e => hB (congrArg Addr.block e).symm), World.cell?_setCell_other _ _ _ _ (fun e => hB (congrArg Addr.block e).symm)]; exact h.2.1,
   Lib.hid fun j u hu => by rw [World.cell?_setCell_other _ _ _ _ (fun e => hb (congrArg Addr.block e).symm), World.cell?_setCell_other _ _ _ _ (fun e => hb (congrArg Addr.block e).symm)]; exact h.2.2.out j u hu⟩
theorem WS.again {B : Nat} {n : Int} {E : Value} {b off : Nat} {es : List Ed} {W : World} {o o' : Obj} (hB : B < W.heap.size) (hb : b < W.heap.size) (h : WS B n E b off es (W.alloc o)) : WS B n E b off es (W.alloc o') :=
  ⟨by rw [World.cell?_alloc_lt _ _ _ hB]; have := h.1; rwa [World.cell?_alloc_lt _ _ _ hB] at this, by rw [World.cell?_alloc_lt _ _ _ hB]; have := h.2.1; rwa [World.cell?_alloc_lt _ _ _ hB] at this,
   Lib.hid fun j u hu => by have h0 := h.2.2.out j u hu; rw [World.cell?_alloc_lt _ _ _ hb] at h0 ⊢; exact h0⟩
theorem ne_of {P gg s : Nat} {v : Value} (hat : v.ownBlock = some gg ∨ gg = s) (hr : some P ≠ v.ownBlock) (hs : P ≠ s) : P ≠ gg := fun e => by
  rcases hat with h | h
  · exact hr (by rw [e]; exact h.symm)
  · exact hs (by rw [e]; exact h)
theorem flat_set : ∀ (es : List Ed) (k : Nat) (x : Nat), k < es.length → flat (es.modify k fun e => ⟨e.f, e.t, x⟩) = (flat es).set (k * 3 + 2) (.int .u64 (x : Int))
  | [], k, x, h => by simp at h
  | e :: es, 0, x, h => by simp [flat, edCells]
  | e :: es, k + 1, x, h => by
    have ih := flat_set es k x (by simpa using h)
    have h1 : ∀ l, flat (e :: l) = edCells e ++ flat l := fun _ => rfl
    rw [List.modify_succ_cons, h1, h1, ih, List.set_append_right _ _ (by simp [edCells]; omega)]
    congr 2
    simp [edCells]
    omega
/-- Behind the region that lays the new graph: its variable, and the row of its own. -/
def WFin (w1 W : World) (H P gg : Nat) (n : Int) (m cap : Nat) (es : List Ed) : Prop :=
  W.cell? ⟨P, 0, none⟩ = some (.int .i64 n) ∧ W.cell? ⟨P, 1, none⟩ = some (.slice (some ⟨gg, 0, none⟩) m cap) ∧ W.ownsRow H 56 3 (.slice (some ⟨gg, 0, none⟩) m cap) m (flat es) ∧ Below H w1 W ∧ P ≠ gg ∧ H ≤ P
theorem wfin1 {w1 w2 : World} {H gg : Nat} {n : Int} {m cap : Nat} {es : List Ed} {T : TypeId} (ho : w2.ownsRow H 56 3 (.slice (some ⟨gg, 0, none⟩) (0 + m) cap) (0 + m) ([] ++ flat es)) (hB : Below H w1 w2) (hs : H ≤ w2.heap.size) : WFin w1 (w2.alloc (.cells #[.int .i64 n, .slice (some ⟨gg, 0, none⟩) m cap] T)) H w2.heap.size gg n m cap es := by
  rw [Nat.zero_add, List.nil_append] at ho
  exact ⟨by simp, by simp, ho.alloc _, hB.alloc hs _, fun e => by have := (ho.lt gg rfl).2; omega, hs⟩
theorem wfin2 {w1 w2 : World} {H P gg : Nat} {n : Int} {m cap : Nat} {es : List Ed} {u v : Value} (ho : w2.ownsRow H 56 3 (.slice (some ⟨gg, 0, none⟩) (0 + m) cap) (0 + m) ([] ++ flat es)) (hB : Below H w1 w2) (hP : P ≠ gg) (hH : H ≤ P) (h0 : w2.cell? ⟨P, 0, none⟩ = some u) (h1 : w2.cell? ⟨P, 1, none⟩ = some v) :
    WFin w1 ((w2.setCell ⟨P, 0, none⟩ (.int .i64 n)).setCell ⟨P, 1, none⟩ (.slice (some ⟨gg, 0, none⟩) m cap)) H P gg n m cap es := by
  rw [Nat.zero_add, List.nil_append] at ho
  have h2 := set2_cells h0 h1 (.int .i64 n) (.slice (some ⟨gg, 0, none⟩) m cap)
  exact ⟨h2.1, h2.2, ownsRow_setCell_other (ownsRow_setCell_other ho (by simp [Value.ownBlock]; omega) _) (by simp [Value.ownBlock]; omega) _, (hB.setCell hH _).setCell hH _, hP, hH⟩
end Go.Proofs.Ytifljelphniipaa
