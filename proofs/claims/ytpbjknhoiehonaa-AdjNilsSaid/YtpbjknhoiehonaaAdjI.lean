import Derived.Test.YtpbjknhoiehonaaAdjH
set_option linter.unusedVariables false
set_option linter.unusedSimpArgs false
namespace Go.Proofs.Ytpbjknhoiehonaa
open Go.RowKit Go.Shelf
attribute [local go_sem ↓] Go.wp_at_zero Go.wp_at_succ
/-! A NIL Adj. -/
theorem each_nil (v : Int) (back : Bool) (W : World) :
    Calls Try.prog 26 #[.pointer none, .int .i64 v, .bool back] W fun e w' => ∃ R : Nat, e = .returned (.func (.func 37) #[] #[.pointer (some ⟨R, 0, none⟩), .pointer (some ⟨R + 1, 0, none⟩)]) ∧ w'.cell? ⟨R, 0, none⟩ = some (.slice none 0 0) ∧ Below W.heap.size W w' := by
  refine (each_at none v back _ 0 none none 0 0 0 0 rfl W (Lib.hid (row_nil v back W)) (Lib.hid fun W1 _ => kept_nil W1)).mono ?_
  rintro e w' ⟨R, rfl, g0, g1, g2, hB⟩
  exact ⟨R, rfl, g0, hB⟩
theorem nileach : NilEach := fun v back W => (each_nil v back W).mono fun e w' ⟨R, e1, g0, hB⟩ => ⟨_, e1, hB, fun l W2 hb => each1_nil R (R + 1) l W2 (cell_on hb g0)⟩
set_option maxRecDepth 100000 in
set_option maxHeartbeats 2000000 in
theorem numbers_nil (R R1 : Nat) (w : World) (hR : w.cell? ⟨R, 0, none⟩ = some (.slice none 0 0)) :
    Calls Try.prog 25 #[.func (.func 37) #[] #[.pointer (some ⟨R, 0, none⟩), .pointer (some ⟨R1, 0, none⟩)]] w fun e w' => e = .returned (.slice none 0 0) ∧ Below w.heap.size w w' := by
  refine (callsIn_wide (n := 4)).1 ?_
  refine callsIn_of_wp_marks Try.func25 rfl trivial ?_ rfl
  simp only [Try.ntmps25, List.size_toArray, List.length_cons, List.length_nil, Nat.reduceAdd, Nat.reduceSub, Array.replicate_succ, Array.replicate_zero, List.push_toArray, List.append_toArray, List.nil_append, List.cons_append]
  have bO := Boxed.new w 32 (.slice none 0 0)
  have hB0 : Below w.heap.size w (w.alloc (.cells #[.slice none 0 0] 32)) := (Below.refl _ w).alloc (Nat.le_refl _) _
  gi_wp2
  refine wpIn_rangeFunc_ownF (α := Empty) (F := Fence.wide) (n := 4) rfl (by omega) (gf := 37) (lb := #[.pointer (some ⟨R, 0, none⟩), .pointer (some ⟨R1, 0, none⟩)]) rfl trivial (enters_of Try.func37 (by kernel_rfl) rfl) (seq_none (Kp := fun _ _ => True) (fun l W2 hb => each1_nil R R1 l W2 (cell_on (on_trans hB0 hb) hR))) (fun _ _ => trivial) (fun _ _ _ _ _ _ _ _ => trivial) (Below.refl _ _) (fun x => x.elim)
    (fun pre W => Boxed W w.heap.size 32 (.slice none 0 0) ∧ Below w.heap.size w W) (fun _ _ _ => False)
    (OwnFrom.and (Own.from (boxed_own _ _ _) _) (ownFrom_below (Nat.le_refl _) (by simp)))
    (fun _ _ _ _ _ hs _ _ => hs) ⟨bO, hB0⟩ (fun x => x.elim) (fun l x => x.elim) (fun l pre x => x.elim) ?done ?stop
  case done =>
    rintro D xs W hD rfl ⟨hv, hBW⟩ hK
    have hc := hv.cell
    gi_wp2
    refine ⟨by simp, .inl ⟨_, _, rfl, run_takeDeferred hK, ?_⟩⟩
    exact ⟨_, results_tmp rfl _ _ _, rfl, hBW.trans (belowK_b (w := w) (Nat.le_refl _) W D _ _ (by simp at hD; omega) hK rfl rfl)⟩
  case stop =>
    rintro D c pre W _ _ h _
    exact h.elim
set_option maxRecDepth 100000 in
set_option maxHeartbeats 2000000 in
theorem abetween_nil (u v : Int) (w : World) : Calls Try.prog 17 #[.pointer none, .int .i64 u, .int .i64 v] w fun e w' => ∃ a c, e = .returned (.slice a 0 c) ∧ Below w.heap.size w w' := by
  refine (callsIn_wide (n := 4)).1 ?_
  refine callsIn_of_wp_marks Try.func17 rfl trivial ?_ rfl
  simp only [Try.ntmps17, List.size_toArray, List.length_cons, List.length_nil, Nat.reduceAdd, Nat.reduceSub, Array.replicate_succ, Array.replicate_zero, List.push_toArray, List.append_toArray, List.nil_append, List.cons_append]
  have hB0 : Below w.heap.size w ((w.alloc (.cells #[.int .i64 v] 3)).alloc (.cells #[.slice none 0 0] 32)) := ((Below.refl _ w).alloc (Nat.le_refl _) _).alloc (by simp) _
  have bO := Boxed.new (w.alloc (.cells #[.int .i64 v] 3)) 32 (.slice none 0 0)
  rw [World.size_alloc] at bO
  gi_wp2_with (refine ⟨trivial, ?_⟩; gi_at_call 26; refine (callsIn_wide.2 (each_nil u false _)).mono ?_; rintro e w1 ⟨R, rfl, g0, hB⟩)
  have hB1 := on_trans hB0 hB
  have bO1 := cell_on hB bO.cell
  have hz : w.heap.size + 2 ≤ w1.heap.size := by have := hB.size; simp at this; omega
  refine wpIn_rangeFunc_ownF (α := Empty) (F := Fence.wide) (n := 4) rfl (by omega) (gf := 37) (lb := #[.pointer (some ⟨R, 0, none⟩), .pointer (some ⟨R + 1, 0, none⟩)]) rfl trivial (enters_of Try.func37 (by kernel_rfl) rfl) (seq_none (Kp := fun _ _ => True) (fun l W2 hb => each1_nil R (R + 1) l W2 (cell_on hb g0))) (fun _ _ => trivial) (fun _ _ _ _ _ _ _ _ => trivial) (Below.refl _ _) (fun x => x.elim)
    (fun pre W => W.cell? ⟨w.heap.size + 1, 0, none⟩ = some (.slice none 0 0) ∧ Below w.heap.size w W) (fun _ _ _ => False)
    (OwnFrom.and (Own.from (fun s A B row hs hg hr => cell_kept hs hg hr) _) (ownFrom_below (Nat.le_refl _) (by omega)))
    (fun _ _ _ _ _ hs _ _ => hs) ⟨bO1, hB1⟩ (fun x => x.elim) (fun l x => x.elim) (fun l pre x => x.elim) ?done ?stop
  case done =>
    rintro D xs W hD rfl ⟨hc, hBW⟩ hK
    gi_wp2
    refine ⟨by simp, .inl ⟨_, _, rfl, run_takeDeferred hK, ?_⟩⟩
    exact ⟨_, results_tmp rfl _ _ _, _, _, rfl, hBW.trans (belowK_b (w := w) (Nat.le_refl _) W D _ _ (by omega) hK rfl rfl)⟩
  case stop =>
    rintro D c pre W _ _ h _
    exact h.elim
theorem aout_nil (v : Int) (W : World) : Calls Try.prog 9 #[.pointer none, .int .i64 v] W fun e w' => ∃ a c, e = .returned (.slice a 0 c) ∧ Below W.heap.size W w' := by
  have HE := Lib.hid (each_nil v false W)
  go_enter Try.func9, Try.ntmps9
  go_wp2_with (first
    | (go_at_call 26; refine HE.out.mono ?_; rintro e w1 ⟨R, rfl, g0, hB⟩; have HB := Lib.hid hB; have HG := Lib.hid (numbers_nil R (R + 1) _ g0); clear HE g0 hB)
    | (go_at_call 25; refine HG.out.mono ?_; rintro e w2 ⟨rfl, hB2⟩; have HB2 := Lib.hid (on_trans HB.out hB2); clear HB hB2))
  go_ret
  exact ⟨_, _, rfl, HB2.out⟩
theorem ain_nil (v : Int) (W : World) : Calls Try.prog 10 #[.pointer none, .int .i64 v] W fun e w' => ∃ a c, e = .returned (.slice a 0 c) ∧ Below W.heap.size W w' := by
  have HE := Lib.hid (each_nil v true W)
  go_enter Try.func10, Try.ntmps10
  go_wp2_with (first
    | (go_at_call 26; refine HE.out.mono ?_; rintro e w1 ⟨R, rfl, g0, hB⟩; have HB := Lib.hid hB; have HG := Lib.hid (numbers_nil R (R + 1) _ g0); clear HE g0 hB)
    | (go_at_call 25; refine HG.out.mono ?_; rintro e w2 ⟨rfl, hB2⟩; have HB2 := Lib.hid (on_trans HB.out hB2); clear HB hB2))
  go_ret
  exact ⟨_, _, rfl, HB2.out⟩
theorem aedges_nil (W : World) : Calls Try.prog 16 #[.pointer none] W fun e w' => e = .returned (.int .i64 0) ∧ Below W.heap.size W w' := by
  have hfld : ∀ W, (Instr.field 24 (.agg #[.int .i64 0, .slice none 0 0]) 1).run Try.prog W = .ok (.slice none 0 0) W := fun W => by rfl
  have HK := Lib.hid (kept_nil W)
  go_enter Try.func16, Try.ntmps16
  go_wp2_with (go_at_call 27; refine HK.out.mono ?_; rintro e w1 ⟨rfl, hB⟩; have HB := Lib.hid hB; clear hB HK)
  go_ret
  exact ⟨rfl, HB.out⟩
theorem anodes_nil (W : World) : Calls Try.prog 15 #[.pointer none] W fun e w' => e = .returned (.int .i64 0) ∧ Below W.heap.size W w' := by
  have hfld : ∀ W, (Instr.field 24 (.agg #[.int .i64 0, .slice none 0 0]) 0).run Try.prog W = .ok (.int .i64 0) W := fun W => by rfl
  have HK := Lib.hid (kept_nil W)
  go_enter Try.func15, Try.ntmps15
  go_wp2_with (go_at_call 27; refine HK.out.mono ?_; rintro e w1 ⟨rfl, hB⟩; have HB := Lib.hid hB; clear hB HK)
  go_ret
  exact ⟨rfl, HB.out⟩
set_option maxHeartbeats 1000000 in
theorem agraph_nil (W : World) : Calls Try.prog 18 #[.pointer none] W fun e w' => ∃ x, e = .returned (.agg #[.int .i64 0, x]) ∧ Below W.heap.size W w' := by
  have hb := (Below.refl W.heap.size W).alloc (Nat.le_refl _) (.cells #[.int .i64 0, .slice none 0 0] 24)
  have HB0 := Lib.hid hb
  have HK := Lib.hid (fun W => kept_nil W)
  have HC := Lib.hid (fun W1 => pclone_own 0 [] none 0 0 rfl (by omega) W1 (fun h => absurd h (by omega)))
  go_enter Try.func18, Try.ntmps18
  go_wp2_with (first
    | (go_at_call 27; refine (HK.out _).mono ?_; rintro e w1 ⟨rfl, hB⟩; have HB1 := Lib.hid (on_trans HB0.out hB); have p0 := cell_on hB (agg2 W (.int .i64 0) (.slice none 0 0) 24).1; have p1 := cell_on hB (agg2 W (.int .i64 0) (.slice none 0 0) 24).2; have f0 := frozen_on hB (agg2 W (.int .i64 0) (.slice none 0 0) 24).1 (by simp); have f1 := frozen_on hB (agg2 W (.int .i64 0) (.slice none 0 0) 24).2 (by simp); clear hB HK HB0)
    | (go_at_call 23; refine (HC.out _).mono ?_; rintro e w2 ⟨a', c', rfl, _, hB⟩; have HB2 := Lib.hid (on_trans HB1.out hB); have q0 := cell_on hB p0; have q1 := cell_on hB p1; have k0 := frozen_on hB p0 f0; have k1 := frozen_on hB p1 f1; clear hB HC HB1 p0 p1 f0 f1))
  have h2 := set2_cells q0 q1 (.int .i64 0) (.slice a' 0 c')
  exact bodyPost_ret_by (resG rfl _ rfl h2.1 h2.2) rfl ⟨_, rfl, (HB2.out.setCell (by simp) _).setCell (by simp) _⟩
end Go.Proofs.Ytpbjknhoiehonaa
