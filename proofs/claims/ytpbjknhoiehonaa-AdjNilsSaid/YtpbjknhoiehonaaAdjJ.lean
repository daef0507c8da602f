import Derived.Test.YtpbjknhoiehonaaAdjI
set_option linter.unusedVariables false
set_option linter.unusedSimpArgs false
namespace Go.Proofs.Ytpbjknhoiehonaa
open Go.RowKit Go.Shelf
attribute [local go_sem ↓] Go.wp_at_zero Go.wp_at_succ
theorem loadEd {w : World} {g : Nat} {x y z : Value} (h0 : w.cell? ⟨g, 0, none⟩ = some x) (h1 : w.cell? ⟨g, 1, none⟩ = some y) (h2 : w.cell? ⟨g, 2, none⟩ = some z) : (loadVar 36 ⟨g, 0, none⟩).run Try.prog w = .ok (.agg #[x, y, z]) w := by
  have hl : (loadCells ⟨g, 0, none⟩ 3).run Try.prog w = .ok #[x, y, z] w := by
    have := run_loadCells_list (P := Try.prog) w ⟨g, 0, none⟩ [x, y, z] (fun j v hv => by
      rw [Addr.add_lit, Nat.zero_add]
      match j, hv with
      | 0, hv => rw [h0]; simpa using hv
      | 1, hv => rw [h1]; simpa using hv
      | 2, hv => rw [h2]; simpa using hv
      | j + 3, hv => simp at hv)
    simpa using this
  have ha : (isAgg 36).run Try.prog w = .ok true w := by kernel_rfl
  have hs : (sizeOf 36).run Try.prog w = .ok 3 w := by kernel_rfl
  simp [loadVar, ha, hs, hl]
theorem resEB {fn : Func} {p u : Tmp} (h : fn.results = #[.cell p 36, .tmp u]) (tmps : Array Value) {w : World} {g : Nat} {x y z : Value} (hp : tmps.getD p undef = .pointer (some ⟨g, 0, none⟩)) (h0 : w.cell? ⟨g, 0, none⟩ = some x) (h1 : w.cell? ⟨g, 1, none⟩ = some y) (h2 : w.cell? ⟨g, 2, none⟩ = some z) :
    (results fn tmps).run Try.prog w = .ok (.tuple #[.agg #[x, y, z], tmps.getD u undef]) w := by
  have hp' : tmps[p]?.getD undef = .pointer (some ⟨g, 0, none⟩) := by simpa using hp
  simp [results, h, hp', asAddr, loadEd h0 h1 h2]
theorem set3_cells {w : World} {g : Nat} {u v t : Value} (h0 : w.cell? ⟨g, 0, none⟩ = some u) (h1 : w.cell? ⟨g, 1, none⟩ = some v) (h2 : w.cell? ⟨g, 2, none⟩ = some t) (x y z : Value) :
    (((w.setCell ⟨g, 0, none⟩ x).setCell ⟨g, 1, none⟩ y).setCell ⟨g, 2, none⟩ z).cell? ⟨g, 0, none⟩ = some x ∧ (((w.setCell ⟨g, 0, none⟩ x).setCell ⟨g, 1, none⟩ y).setCell ⟨g, 2, none⟩ z).cell? ⟨g, 1, none⟩ = some y ∧ (((w.setCell ⟨g, 0, none⟩ x).setCell ⟨g, 1, none⟩ y).setCell ⟨g, 2, none⟩ z).cell? ⟨g, 2, none⟩ = some z := by
  have e1 := set2_cells h0 h1 x y
  refine ⟨?_, ?_, World.cell?_setCell_same _ _ _ (by rw [World.cell?_setCell_other _ _ _ _ (by simp), World.cell?_setCell_other _ _ _ _ (by simp)]; exact h2)⟩
  · rw [World.cell?_setCell_other _ _ _ _ (by simp)]; exact e1.1
  · rw [World.cell?_setCell_other _ _ _ _ (by simp)]; exact e1.2
set_option maxHeartbeats 1000000 in
theorem aedge_nil (v : Int) (W : World) : Calls Try.prog 14 #[.pointer none, .int .i64 v] W fun e w' => e = .returned (.tuple #[.agg #[.int .i64 0, .int .i64 0, .int .u64 0], .bool false]) ∧ Below W.heap.size W w' := by
  have hb := (Below.refl W.heap.size W).alloc (Nat.le_refl _) (.cells #[.int .i64 0, .int .i64 0, .int .u64 0] 36)
  have HB0 := Lib.hid hb
  have HK := Lib.hid (fun W => kept_nil W)
  have HE := Lib.hid (fun W1 => pedge_any 0 none 0 0 v W1)
  rw [show nodeB ((0 : Nat) : Int) v = false by unfold nodeB; simp] at HE
  have P0 := (show (W.alloc (.cells #[.int .i64 0, .int .i64 0, .int .u64 0] 36)).cell? ⟨W.heap.size, 0, none⟩ = some (.int .i64 0) by simp)
  have P1 := (show (W.alloc (.cells #[.int .i64 0, .int .i64 0, .int .u64 0] 36)).cell? ⟨W.heap.size, 1, none⟩ = some (.int .i64 0) by simp)
  have P2 := (show (W.alloc (.cells #[.int .i64 0, .int .i64 0, .int .u64 0] 36)).cell? ⟨W.heap.size, 2, none⟩ = some (.int .u64 0) by simp)
  have F0 := (show (W.alloc (.cells #[.int .i64 0, .int .i64 0, .int .u64 0] 36)).frozen? ⟨W.heap.size, 0, none⟩ = false by simp)
  have F1 := (show (W.alloc (.cells #[.int .i64 0, .int .i64 0, .int .u64 0] 36)).frozen? ⟨W.heap.size, 1, none⟩ = false by simp)
  have F2 := (show (W.alloc (.cells #[.int .i64 0, .int .i64 0, .int .u64 0] 36)).frozen? ⟨W.heap.size, 2, none⟩ = false by simp)
  go_enter Try.func14, Try.ntmps14
  go_wp2_with (first
    | (go_at_call 27; refine (HK.out _).mono ?_; rintro e w1 ⟨rfl, hB⟩; have HB1 := Lib.hid (on_trans HB0.out hB); have p0 := cell_on hB P0; have p1 := cell_on hB P1; have p2 := cell_on hB P2; have f0 := frozen_on hB P0 F0; have f1 := frozen_on hB P1 F1; have f2 := frozen_on hB P2 F2; clear hB HK HB0)
    | (go_at_call 28; refine (HE.out _).mono ?_; rintro e w2 ⟨rfl, hB⟩; have hbb := (Below.refl w1.heap.size w1).alloc (Nat.le_refl _) (.cells #[.int .i64 0, .slice none 0 0] 24); have HB2 := Lib.hid (on_trans (on_trans HB1.out hbb) hB); have q0 := cell_on hB (cell_on hbb p0); have q1 := cell_on hB (cell_on hbb p1); have q2 := cell_on hB (cell_on hbb p2); have k0 := frozen_on hB (cell_on hbb p0) (frozen_on hbb p0 f0); have k1 := frozen_on hB (cell_on hbb p1) (frozen_on hbb p1 f1); have k2 := frozen_on hB (cell_on hbb p2) (frozen_on hbb p2 f2); clear hB hbb HE HB1 p0 p1 p2 f0 f1 f2))
  obtain ⟨r0, r1, r2⟩ := set3_cells q0 q1 q2 (.int .i64 0) (.int .i64 0) (.int .u64 0)
  exact bodyPost_ret_by (resEB rfl _ rfl r0 r1 r2) rfl ⟨rfl, ((HB2.out.setCell (by simp) _).setCell (by simp) _).setCell (by simp) _⟩
theorem nilspec : NilSpec where
  each := nileach
  edge := aedge_nil
  nodes := anodes_nil
  edges := aedges_nil
  out := aout_nil
  inn := ain_nil
  between := abetween_nil
  graph := agraph_nil
end Go.Proofs.Ytpbjknhoiehonaa
