import Derived.Test.YtpbjknhoiehonaaGraZe
set_option linter.unusedVariables false
set_option linter.unusedSimpArgs false
namespace Go.Proofs.Ytpbjknhoiehonaa
open Go.RowKit
attribute [local go_sem ↓] Go.wp_at_zero Go.wp_at_succ
/-- The first k edges turned round, the others as they were. -/
def turnL (es : List Ed) (k : Nat) : List Ed := (es.take k).map turnE ++ es.drop k
theorem turnL_len (es : List Ed) (k : Nat) : (turnL es k).length = es.length := by simp [turnL]; omega
theorem turnL_zero (es : List Ed) : turnL es 0 = es := by simp [turnL]
theorem turnL_all (es : List Ed) : turnL es es.length = es.map turnE := by simp [turnL]
theorem turnL_at {es : List Ed} {k : Nat} {e : Ed} (h : es[k]? = some e) : (turnL es k)[k]? = some e := by
  have hk := (List.getElem?_eq_some_iff.1 h).1
  unfold turnL
  rw [List.getElem?_append_right (by simp; omega)]
  simp
  rw [show k - min k es.length = 0 by omega, Nat.add_zero]
  exact h
theorem turnL_succ {es : List Ed} {k : Nat} {e : Ed} (h : es[k]? = some e) : turnL es (k + 1) = (turnL es k).set k (turnE e) := by
  obtain ⟨hk, he⟩ := List.getElem?_eq_some_iff.1 h
  unfold turnL
  rw [List.take_succ_eq_append_getElem hk, he, List.map_append, List.set_append_right _ _ (by simp; omega)]
  have h0 : k - ((es.take k).map turnE).length = 0 := by simp; omega
  rw [h0, ← List.getElem_cons_drop hk, he, List.set_cons_zero, List.append_assoc]
  rfl
/-- An edge is stored in a row of the call's own. -/
theorem put_e {w1 W : World} {base gg m cap k : Nat} {L : List Ed} {e : Ed} (hm : L.length = m) (hk : k < m) (hown : W.ownsRow base 36 3 (.slice (some ⟨gg, 0, none⟩) m cap) m (flat L)) (hB : Below base w1 W) :
    (((W.setCell ⟨gg, k * 3, none⟩ (.int .i64 e.f)).setCell ⟨gg, k * 3 + 1, none⟩ (.int .i64 e.t)).setCell ⟨gg, k * 3 + 2, none⟩ (.int .u64 (e.w : Int))).ownsRow base 36 3 (.slice (some ⟨gg, 0, none⟩) m cap) m (flat (L.set k e)) ∧
    Below base w1 (((W.setCell ⟨gg, k * 3, none⟩ (.int .i64 e.f)).setCell ⟨gg, k * 3 + 1, none⟩ (.int .i64 e.t)).setCell ⟨gg, k * 3 + 2, none⟩ (.int .u64 (e.w : Int))) := by
  have hg := (hown.lt gg rfl).1
  refine ⟨?_, ((hB.setCell hg _).setCell hg _).setCell hg _⟩
  rw [flat_put L k e (by omega)]
  exact (((hown.stored _ _).1.stored _ _).1.stored _ _).1
theorem put3_other {W : World} {gg R i k1 k2 k3 : Nat} {u v x y : Value} (h : W.cell? ⟨R, i, none⟩ = some y) (hne : R ≠ gg) : (((W.setCell ⟨gg, k1, none⟩ u).setCell ⟨gg, k2, none⟩ v).setCell ⟨gg, k3, none⟩ x).cell? ⟨R, i, none⟩ = some y := by
  rw [World.cell?_setCell_other _ _ _ _ (fun e => hne (congrArg Addr.block e).symm), World.cell?_setCell_other _ _ _ _ (fun e => hne (congrArg Addr.block e).symm), World.cell?_setCell_other _ _ _ _ (fun e => hne (congrArg Addr.block e).symm)]
  exact h
end Go.Proofs.Ytpbjknhoiehonaa
