import Derived.Test.YtpbjknhoiehonaaAdjN
import Derived.Test.YtpbjknhoiehonaaAdjB
set_option linter.unusedVariables false
set_option linter.unusedSimpArgs false
namespace Go.Proofs.Ytpbjknhoiehonaa
open Go.RowKit
attribute [local go_sem ↓] Go.wp_at_zero Go.wp_at_succ
/-- WHAT THE PACKAGE ADJ ANSWERS AT A NIL ADJ. -/
structure NilSpec : Prop where
  each : NilEach
  edge : ∀ (v : Int) (W : World), Calls Try.prog 14 #[.pointer none, .int .i64 v] W fun e w' => e = .returned (.tuple #[.agg #[.int .i64 0, .int .i64 0, .int .u64 0], .bool false]) ∧ Below W.heap.size W w'
  nodes : ∀ W : World, Calls Try.prog 15 #[.pointer none] W fun e w' => e = .returned (.int .i64 0) ∧ Below W.heap.size W w'
  edges : ∀ W : World, Calls Try.prog 16 #[.pointer none] W fun e w' => e = .returned (.int .i64 0) ∧ Below W.heap.size W w'
  out : ∀ (v : Int) (W : World), Calls Try.prog 9 #[.pointer none, .int .i64 v] W fun e w' => ∃ a c, e = .returned (.slice a 0 c) ∧ Below W.heap.size W w'
  inn : ∀ (v : Int) (W : World), Calls Try.prog 10 #[.pointer none, .int .i64 v] W fun e w' => ∃ a c, e = .returned (.slice a 0 c) ∧ Below W.heap.size W w'
  between : ∀ (u v : Int) (W : World), Calls Try.prog 17 #[.pointer none, .int .i64 u, .int .i64 v] W fun e w' => ∃ a c, e = .returned (.slice a 0 c) ∧ Below W.heap.size W w'
  graph : ∀ W : World, Calls Try.prog 18 #[.pointer none] W fun e w' => ∃ x, e = .returned (.agg #[.int .i64 0, x]) ∧ Below W.heap.size W w'
set_option maxHeartbeats 2000000 in
theorem anils_any (Z : NilSpec) {Held : World → Nat → Addr → Int → List Ed → Prop} (S : AdjSpec Held) (v : Int) (back : Bool) (w : World) :
    Calls Try.prog 4 #[.int .i64 v, .bool back] w fun e w' => e = .returned (.bool true) ∧ Below w.heap.size w w' := by
  have hfld : ∀ (x : Value) W, (Instr.field 24 (.agg #[.int .i64 0, x]) 0).run Try.prog W = .ok (.int .i64 0) W := fun x W => by rfl
  have HW := Lib.hid (fun W => walked_nil Z.each v back W)
  have HE := Lib.hid (fun W => Z.edge v W)
  have HN := Lib.hid (fun W => Z.nodes W)
  have HM := Lib.hid (fun W => Z.edges W)
  have HO := Lib.hid (fun W => Z.out v W)
  have HI := Lib.hid (fun W => Z.inn v W)
  have HT := Lib.hid (fun W => Z.between v v W)
  have HG := Lib.hid (fun W => Z.graph W)
  have HA := Lib.hid (fun W => aalive_any S W)
  have HB := Lib.hid (Below.refl w.heap.size w)
  clear Z S
  go_enter Try.func4, Try.ntmps4
  go_wp2_with (first
    | (go_at_call 13; refine (HW.out _).mono ?_; rintro e w1 ⟨rfl, hB⟩; have HB := Lib.hid (on_trans HB.out hB); clear hB HW)
    | (go_at_call 14; refine (HE.out _).mono ?_; rintro e w2 ⟨rfl, hB⟩; have HB := Lib.hid ((on_trans HB.out hB).alloc (on_trans HB.out hB).size (.cells #[.int .i64 0, .int .i64 0, .int .u64 0] 36)); clear hB HE)
    | (go_at_call 15; refine (HN.out _).mono ?_; rintro e w3 ⟨rfl, hB⟩; have HB := Lib.hid (on_trans HB.out hB); clear hB HN)
    | (go_at_call 16; refine (HM.out _).mono ?_; rintro e w4 ⟨rfl, hB⟩; have HB := Lib.hid (on_trans HB.out hB); clear hB HM)
    | (go_at_call 9; refine (HO.out _).mono ?_; rintro e w5 ⟨a5, c5, rfl, hB⟩; have HB := Lib.hid (on_trans HB.out hB); clear hB HO)
    | (go_at_call 10; refine (HI.out _).mono ?_; rintro e w6 ⟨a6, c6, rfl, hB⟩; have HB := Lib.hid (on_trans HB.out hB); clear hB HI)
    | (go_at_call 17; refine (HT.out _).mono ?_; rintro e w7 ⟨a7, c7, rfl, hB⟩; have HB := Lib.hid (on_trans HB.out hB); clear hB HT)
    | (go_at_call 18; refine (HG.out _).mono ?_; rintro e w8 ⟨x8, rfl, hB⟩; have HB := Lib.hid (on_trans HB.out hB); clear hB HG)
    | (go_at_call 7; refine (HA.out _).mono ?_; rintro e w9 ⟨rfl, hB⟩; have HB := Lib.hid (on_trans HB.out hB); clear hB HA))
  go_ret
  exact ⟨rfl, HB.out⟩
end Go.Proofs.Ytpbjknhoiehonaa
