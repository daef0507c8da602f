import Derived.Test.YtcgijabnknemiaaGraZe
set_option linter.unusedVariables false
set_option linter.unusedSimpArgs false
namespace Go.Proofs.Ytcgijabnknemiaa
open Go.RowKit
attribute [local go_sem ↓] Go.wp_at_zero Go.wp_at_succ
set_option maxHeartbeats 1000000 in
theorem pwith_no (n : Int) (a : Option Addr) (m c : Nat) (k : Int) (x : Nat) (vb eb wb : Bool) (R : Int) (hF : (vb = false ∧ R = 1) ∨ (vb = true ∧ eb = false ∧ R = 8) ∨ (vb = true ∧ eb = true ∧ wb = false ∧ R = 2)) (w : World)
    (HV : Hid (∀ W, Below w.heap.size w W → Calls Try.prog 34 #[.agg #[.int .i64 n, .slice a m c]] W fun e w' => e = .returned (.bool vb) ∧ Below W.heap.size W w'))
    (HE : Hid (∀ W, Calls Try.prog 12 #[.agg #[.int .i64 n, .slice a m c], .int .i64 k] W fun e w' => e = .returned (.bool eb) ∧ Below W.heap.size W w'))
    (HW : Hid (∀ W, Calls Try.prog 29 #[.int .u64 (x : Int)] W fun e w' => e = .returned (.bool wb) ∧ w' = W)) :
    Calls Try.prog 23 #[.agg #[.int .i64 n, .slice a m c], .int .i64 k, .int .u64 (x : Int)] w fun e w' => e = .returned (.tuple #[.agg #[.int .i64 0, .slice none 0 0], .int .i64 R]) ∧ Below w.heap.size w w' := by
  have HB0 := Lib.hid (((Below.refl w.heap.size w).alloc (Nat.le_refl _) (.cells #[.int .i64 n, .slice a m c] 24)).alloc (by simp) (.cells #[.int .i64 0, .slice none 0 0] 24))
  rcases hF with ⟨rfl, rfl⟩ | ⟨rfl, rfl, rfl⟩ | ⟨rfl, rfl, rfl, rfl⟩
  · clear HE HW
    go_enter Try.func23, Try.ntmps23
    go_wp2_with (go_at_call 34; refine (HV.out _ HB0.out).mono ?_; rintro e w1 ⟨rfl, hB⟩; have c0 := cell_on hB (p := ⟨w.heap.size + 1, 0, none⟩) (v := .int .i64 0) (by simp); have c1 := cell_on hB (p := ⟨w.heap.size + 1, 1, none⟩) (v := .slice none 0 0) (by simp); have f0 := frozen_on hB (p := ⟨w.heap.size + 1, 0, none⟩) (v := .int .i64 0) (by simp) (by simp); have f1 := frozen_on hB (p := ⟨w.heap.size + 1, 1, none⟩) (v := .slice none 0 0) (by simp) (by simp); have HB1 := Lib.hid (on_trans HB0.out hB); clear hB HV)
    have h2 := set2_cells c0 c1 (.int .i64 0) (.slice none 0 0)
    exact bodyPost_ret_by (resGT rfl _ rfl h2.1 h2.2) rfl ⟨rfl, (HB1.out.setCell (by simp) _).setCell (by simp) _⟩
  all_goals
    try clear HW2
    go_enter Try.func23, Try.ntmps23
    go_wp2_with (first
      | (go_at_call 34; refine (HV.out _ HB0.out).mono ?_; rintro e w1 ⟨rfl, hB⟩; have b0 := cell_on hB (p := ⟨w.heap.size, 0, none⟩) (v := .int .i64 n) (by simp); have b1 := cell_on hB (p := ⟨w.heap.size, 1, none⟩) (v := .slice a m c) (by simp); have c0 := cell_on hB (p := ⟨w.heap.size + 1, 0, none⟩) (v := .int .i64 0) (by simp); have c1 := cell_on hB (p := ⟨w.heap.size + 1, 1, none⟩) (v := .slice none 0 0) (by simp); have f0 := frozen_on hB (p := ⟨w.heap.size + 1, 0, none⟩) (v := .int .i64 0) (by simp) (by simp); have f1 := frozen_on hB (p := ⟨w.heap.size + 1, 1, none⟩) (v := .slice none 0 0) (by simp) (by simp); have HB1 := Lib.hid (on_trans HB0.out hB); clear hB HV)
      | (go_at_call 12; refine (HE.out _).mono ?_; rintro e w2 ⟨rfl, hB⟩; have c0' := cell_on hB c0; have c1' := cell_on hB c1; have f0' := frozen_on hB c0 f0; have f1' := frozen_on hB c1 f1; have HB2 := Lib.hid (on_trans HB1.out hB); clear hB HE b0 b1 c0 c1 f0 f1 HB1)
      | (go_at_call 29; refine (HW.out _).mono ?_; rintro e w' ⟨rfl, hw'⟩; obtain rfl := hw'.symm; clear HW))
    have h2 := set2_cells c0' c1' (.int .i64 0) (.slice none 0 0)
    exact bodyPost_ret_by (resGT rfl _ rfl h2.1 h2.2) rfl ⟨rfl, (HB2.out.setCell (by simp) _).setCell (by simp) _⟩
theorem pwith_any (n : Int) {v : Value} {es : List Ed} (k : Int) (x : Nat) (w : World) (h : EdgesAt w v es) :
    Calls Try.prog 23 #[.agg #[.int .i64 n, v], .int .i64 k, .int .u64 (x : Int)] w fun e w' => ∃ v', e = .returned (.tuple #[.agg #[.int .i64 (withV n es k x).2.1, v'], .int .i64 (withV n es k x).1]) ∧ EdgesAt w' v' (withV n es k x).2.2 ∧ Below w.heap.size w w' := by
  have HV := Lib.hid (fun W (hB : Below w.heap.size w W) => pvalid_any n W (h.on hB))
  obtain ⟨a, c, rfl, g⟩ := edgesAt_flat h
  have HE := Lib.hid (fun W => pedge_any n a es.length c k W)
  have HW := Lib.hid (fun W => pweight_any x W)
  unfold withV
  by_cases h1 : rightF n es = 0
  · rw [decide_eq_true h1] at HV
    by_cases h2 : k < 0 ∨ (es.length : Int) ≤ k
    · rw [if_neg (by simp [h1]), if_pos h2]
      have e2 : nodeB es.length k = false := by simp [nodeB]; omega
      rw [e2] at HE
      exact (pwith_no n a es.length c k x true false _ 8 (.inr (.inl ⟨rfl, rfl, rfl⟩)) w HV HE HW).mono fun e w' ⟨e1, e2⟩ => ⟨_, e1, edges_nil _, e2⟩
    · have e2 : nodeB es.length k = true := by simp [nodeB]; omega
      cases h3 : weightB x
      · rw [if_neg (by simp [h1]), if_neg h2, if_neg (by simp)]
        rw [e2] at HE
        rw [h3] at HW
        exact (pwith_no n a es.length c k x true true false 2 (.inr (.inr ⟨rfl, rfl, rfl, rfl⟩)) w HV HE HW).mono fun e w' ⟨e1, e2⟩ => ⟨_, e1, edges_nil _, e2⟩
      · rw [if_neg (by simp [h1]), if_neg h2, if_pos rfl]
        obtain ⟨K, rfl⟩ : ∃ K : Nat, k = K := ⟨k.toNat, by omega⟩
        exact pwith_right n es a es.length c rfl (right_ends h1).2.2.1 K x (by omega) h3 w g HV
  · rw [if_pos h1]
    rw [decide_eq_false h1] at HV
    exact (pwith_no n a es.length c k x false _ _ 1 (.inl ⟨rfl, rfl⟩) w HV HE HW).mono fun e w' ⟨e1, e2⟩ => ⟨_, e1, edges_nil _, e2⟩
/-- The first k edges turned round, the others as they were. -/
def turnL (es : List Ed) (k : Nat) : List Ed := (es.take k).map turnE ++ es.drop k
theorem turnL_len (es : List Ed) (k : Nat) : (turnL es k).length = es.length := by simp [turnL]; omega
theorem turnL_zero (es : List Ed) : turnL es 0 = es := by simp [turnL]
theorem turnL_all (es : List Ed) : turnL es es.length = es.map turnE := by simp [turnL]
theorem turnL_at {es : List Ed} {k : Nat} {e : Ed} (h : es[k]? = some e) : (turnL es k)[k]? = some e := by
  have hk := (List.getElem?_eq_some_iff.1 h).1
  unfold turnL
  rw [List.getElem?_append_right (by simp; omega)]
  simp
  rw [show k - min k es.length = 0 by omega, Nat.add_zero]
  exact h
theorem turnL_succ {es : List Ed} {k : Nat} {e : Ed} (h : es[k]? = some e) : turnL es (k + 1) = (turnL es k).set k (turnE e) := by
  obtain ⟨hk, he⟩ := List.getElem?_eq_some_iff.1 h
  unfold turnL
  rw [List.take_succ_eq_append_getElem hk, he, List.map_append, List.set_append_right _ _ (by simp; omega)]
  have h0 : k - ((es.take k).map turnE).length = 0 := by simp; omega
  rw [h0, ← List.getElem_cons_drop hk, he, List.set_cons_zero, List.append_assoc]
  rfl
/-- An edge is stored in a row of the call's own. -/
theorem put_e {w1 W : World} {base gg m cap k : Nat} {L : List Ed} {e : Ed} (hm : L.length = m) (hk : k < m) (hown : W.ownsRow base 46 3 (.slice (some ⟨gg, 0, none⟩) m cap) m (flat L)) (hB : Below base w1 W) :
    (((W.setCell ⟨gg, k * 3, none⟩ (.int .i64 e.f)).setCell ⟨gg, k * 3 + 1, none⟩ (.int .i64 e.t)).setCell ⟨gg, k * 3 + 2, none⟩ (.int .u64 (e.w : Int))).ownsRow base 46 3 (.slice (some ⟨gg, 0, none⟩) m cap) m (flat (L.set k e)) ∧
    Below base w1 (((W.setCell ⟨gg, k * 3, none⟩ (.int .i64 e.f)).setCell ⟨gg, k * 3 + 1, none⟩ (.int .i64 e.t)).setCell ⟨gg, k * 3 + 2, none⟩ (.int .u64 (e.w : Int))) := by
  have hg := (hown.lt gg rfl).1
  refine ⟨?_, ((hB.setCell hg _).setCell hg _).setCell hg _⟩
  rw [flat_put L k e (by omega)]
  exact (((hown.stored _ _).1.stored _ _).1.stored _ _).1
theorem put3_other {W : World} {gg R i k1 k2 k3 : Nat} {u v x y : Value} (h : W.cell? ⟨R, i, none⟩ = some y) (hne : R ≠ gg) : (((W.setCell ⟨gg, k1, none⟩ u).setCell ⟨gg, k2, none⟩ v).setCell ⟨gg, k3, none⟩ x).cell? ⟨R, i, none⟩ = some y := by
  rw [World.cell?_setCell_other _ _ _ _ (fun e => hne (congrArg Addr.block e).symm), World.cell?_setCell_other _ _ _ _ (fun e => hne (congrArg Addr.block e).symm), World.cell?_setCell_other _ _ _ _ (fun e => hne (congrArg Addr.block e).symm)]
  exact h
end Go.Proofs.Ytcgijabnknemiaa
