import Derived.Test.YtpbjknhoiehonaaBas
import Derived.RangeFuncNested
import Derived.RangeFuncBound
import Derived.RangeFuncCalls
import Derived.RangeFuncLeaves
import Derived.RangeFuncFrom
import Derived.Shelf.Abstract
import Derived.Shelf.RegionOpen
import Derived.OwnWalkIn
import Derived.TacticsInMore
import Derived.LoopNIn
import Derived.LoopIn
set_option linter.unusedVariables false
set_option linter.unusedSimpArgs false
namespace Go.Proofs.Ytpbjknhoiehonaa
open Go.RowKit Go.Shelf
/-! RANGING OVER AN ITERATOR FROM WHICH NOTHING COMES. -/
theorem g_none {W w1 : World} (h : Below W.heap.size W w1) : W.grownBy w1 none := ⟨h.os, h.tape, h.output, h.size, fun k hk _ => h.block k hk⟩
/-- An iterator that comes to its end without a round. -/
theorem seq_none {P : Program} {n gf : Nat} {lb : Array Value} {w0 : World} {Kp : World → World → Prop}
    (h : ∀ l W, Below w0.heap.size w0 W → Calls P gf (#[.func (.yield l) #[] #[]] ++ lb) W fun e W' => (∃ v, e = .returned v) ∧ Below W.heap.size W W') :
    SeqStopsK (α := Empty) Fence.wide n P gf lb (fun x => x.elim) Kp (fun xs => xs = []) (fun _ => False) 0 w0 := fun l J Jx W hW hJ _ _ h0 =>
  callsIn_wide.2 ((h l W hW).mono fun e W' ⟨hv, hb⟩ => ⟨hv, .inl ⟨[], rfl, hJ [] W W' none h0 (g_none hb) (fun r e => by cases e)⟩⟩)
/-- WHAT ADJ SAYS AT A NIL ONE, of Each. -/
def NilEach : Prop := ∀ (v : Int) (back : Bool) (W : World), Calls Try.prog 26 #[.pointer none, .int .i64 v, .bool back] W fun e w' => ∃ lb, e = .returned (.func (.func 37) #[] lb) ∧ Below W.heap.size W w' ∧
  ∀ l W2, Below w'.heap.size w' W2 → Calls Try.prog 37 (#[.func (.yield l) #[] #[]] ++ lb) W2 fun e W3 => (∃ v, e = .returned v) ∧ Below W2.heap.size W2 W3
set_option maxRecDepth 100000 in
set_option maxHeartbeats 2000000 in
theorem walked_nil (HN : NilEach) (v : Int) (back : Bool) (w : World) :
    Calls Try.prog 13 #[.pointer none, .agg #[.int .i64 0, .slice none 0 0], .int .i64 v, .bool back] w fun e w' => e = .returned (.tuple #[.slice none 0 0, .bool true]) ∧ Below w.heap.size w w' := by
  have hq : ∀ (lb : Array Value) W, Sem.run Try.prog (binOp BinOp.eql 58 (.func (.func 37) #[] lb) .nilFunc) W = .ok (.bool false) W := fun lb W => by rfl
  refine (callsIn_wide (n := 4)).1 ?_
  refine callsIn_of_wp_marks Try.func13 rfl trivial ?_ rfl
  simp only [Try.ntmps13, List.size_toArray, List.length_cons, List.length_nil, Nat.reduceAdd, Nat.reduceSub, Array.replicate_succ, Array.replicate_zero, List.push_toArray, List.append_toArray, List.nil_append, List.cons_append]
  have on : ∀ (W : World) (o : Obj), Below W.heap.size W (W.alloc o) := fun W o => (Below.refl _ W).alloc (Nat.le_refl _) o
  have hBA : Below w.heap.size w (((w.alloc (.cells #[.int .i64 0, .slice none 0 0] 24)).alloc (.cells #[.slice none 0 0] 32)).alloc (.cells #[.bool true] 4)) := on_trans (on _ _) (on_trans (on _ _) (on _ _))
  have one : ∀ (W : World) (v : Value) (T : TypeId), (W.alloc (.cells #[v] T)).cell? ⟨W.heap.size, 0, none⟩ = some v := fun W v T => by simp
  have a0 := cell_on (on _ (.cells #[.bool true] 4)) (one (w.alloc (.cells #[.int .i64 0, .slice none 0 0] 24)) (.slice none 0 0) 32)
  have a1 := one ((w.alloc (.cells #[.int .i64 0, .slice none 0 0] 24)).alloc (.cells #[.slice none 0 0] 32)) (.bool true) 4
  have s1 : (w.alloc (.cells #[.int .i64 0, .slice none 0 0] 24)).heap.size = w.heap.size + 1 := by simp
  have s2 : ((w.alloc (.cells #[.int .i64 0, .slice none 0 0] 24)).alloc (.cells #[.slice none 0 0] 32)).heap.size = w.heap.size + 1 + 1 := by simp
  rw [s1] at a0
  rw [s2] at a1
  clear s1 s2 one
  gi_wp2_with (refine ⟨trivial, ?_⟩; gi_at_call 26; refine (callsIn_wide.2 (HN v back _)).mono ?_; rintro e w1 ⟨lb, rfl, hB, hN⟩)
  have hBw := on_trans hBA hB
  have hz : w.heap.size + 3 ≤ w1.heap.size := by have := hB.size; simp at this; omega
  refine wpIn_rangeFunc_ownF (α := Empty) (F := Fence.wide) (n := 4) rfl (by omega) (gf := 37) (lb := lb) rfl trivial (enters_of Try.func37 (by kernel_rfl) rfl) (seq_none (Kp := fun _ _ => True) hN) (fun _ _ => trivial) (fun _ _ _ _ _ _ _ _ => trivial) (Below.refl _ _) (fun x => x.elim)
    (fun pre W => (W.cell? ⟨w.heap.size + 1, 0, none⟩ = some (.slice none 0 0) ∧ W.cell? ⟨w.heap.size + 1 + 1, 0, none⟩ = some (.bool true)) ∧ Below w.heap.size w W) (fun _ _ _ => False)
    (OwnFrom.and (Own.from (fun s A B row hs hg hr => ⟨cell_kept hs.1 hg hr, cell_kept hs.2 hg hr⟩) _) (ownFrom_below (Nat.le_refl _) (by omega)))
    (fun _ _ _ _ _ hs _ _ => hs) ⟨⟨cell_on hB a0, cell_on hB a1⟩, hBw⟩ (fun x => x.elim) (fun l x => x.elim) (fun l pre x => x.elim) ?done ?stop
  case done =>
    rintro D xs W hD rfl ⟨⟨c0, c1⟩, hBW⟩ hK
    gi_wp2
    gi_region
    all_goals gi_wp2
    refine ⟨by simp, .inl ⟨_, _, rfl, run_takeDeferred (w := W.drew) hK, ?_⟩⟩
    exact ⟨_, results_tmp2 rfl _ _ _, rfl, hBW.drew.trans (belowK_b (w := w) (Nat.le_refl _) W.drew D _ _ (by omega) hK rfl rfl)⟩
  case stop =>
    rintro D c pre W _ _ h _
    exact h.elim
end Go.Proofs.Ytpbjknhoiehonaa
