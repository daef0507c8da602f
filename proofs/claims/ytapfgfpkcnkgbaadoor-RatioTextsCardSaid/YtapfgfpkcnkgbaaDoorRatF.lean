import Derived.Test.YtapfgfpkcnkgbaaDoorRatD
import Derived.Test.YtapfgfpkcnkgbaaDoorRatE
set_option linter.unusedVariables false
set_option linter.unusedSimpArgs false
namespace Go.Proofs.YtapfgfpkcnkgbaaDoor
open Go.RowKit Go.Sort Go.Lib
theorem w344 (w : World) : Calls Tryd.prog 18 #[.int .u64 3, .agg #[.int .u64 3, .int .u64 4], .int .u64 4] w fun e w' => e = .returned (.bool true) ∧ Below w.heap.size w w' :=
  within_any 3 3 4 4 (by omega) (by omega) (by omega) (by omega) w
theorem u325 (w : World) : Calls Tryd.prog 22 #[.int .u64 3, .agg #[.int .u64 3, .int .u64 2], .int .u64 100] w fun e w' => e = .returned (.int .u64 5) ∧ Below w.heap.size w w' :=
  up_any 3 3 2 100 (by omega) (by omega) (by omega) w
theorem p12 (w : World) (h : Pow10 w) : Calls Tryd.prog 12 #[.agg #[.int .u64 1, .int .u64 2]] w fun e w' => e = .returned (.string ⟨#[49, 47, 50]⟩) ∧ Below w.heap.size w w' := by
  have h := prat_any 1 2 (by omega) (by omega) w h
  have e : printL 1 2 = [49, 47, 50] := by
    unfold printL
    rw [if_pos (show okR 1 2 = true from by decide), decDigits_one (by omega), decDigits_one (by omega)]; rfl
  rw [e] at h
  exact h
theorem alive_any (w : World) (htab : Pow10 w) : Calls Tryd.prog 7 #[] w fun e w' => e = .returned (.bool true) ∧ Below w.heap.size w w' := by
  have HT := Lib.hid htab
  clear htab
  go_enter Tryd.func7, Tryd.ntmps7
  go_wp2_with (first
    | (go_at_call 18; refine (w344 _).mono ?_; rintro e w1 ⟨rfl, hb1⟩)
    | (go_at_call 22; refine (u325 _).mono ?_; rintro e w2 ⟨rfl, hb2⟩)
    | (go_at_call 12; refine (p12 _ ?_).mono ?_; (· exact pow10_next (pow10_next HT.out hb1) hb2); rintro e w3 ⟨rfl, hb3⟩))
  go_ret
  exact ⟨rfl, hb1.trans ((hb2.mono hb1.size).trans (hb3.mono (Nat.le_trans hb1.size hb2.size)))⟩

theorem boxesP (w : World) (a b1 c d : Value) (T : TypeId) (h : Pow10 w) :
    ((w.alloc (.cells #[a, b1] T)).alloc (.cells #[c, d] T)).drew.cell? ⟨w.heap.size, 0, none⟩ = some a ∧ ((w.alloc (.cells #[a, b1] T)).alloc (.cells #[c, d] T)).drew.cell? ⟨w.heap.size, 1, none⟩ = some b1 ∧
    ((w.alloc (.cells #[a, b1] T)).alloc (.cells #[c, d] T)).drew.cell? ⟨w.heap.size + 1, 0, none⟩ = some c ∧ ((w.alloc (.cells #[a, b1] T)).alloc (.cells #[c, d] T)).drew.cell? ⟨w.heap.size + 1, 1, none⟩ = some d ∧
    w.heap.size + 2 ≤ ((w.alloc (.cells #[a, b1] T)).alloc (.cells #[c, d] T)).drew.heap.size ∧ Below w.heap.size w ((w.alloc (.cells #[a, b1] T)).alloc (.cells #[c, d] T)).drew ∧ Pow10 ((w.alloc (.cells #[a, b1] T)).alloc (.cells #[c, d] T)).drew := by
  obtain ⟨k1, k2, k3, k4, ks, kb⟩ := two_boxes w a b1 c d T (w1 := ((w.alloc (.cells #[a, b1] T)).alloc (.cells #[c, d] T)).drew) (w2 := ((w.alloc (.cells #[a, b1] T)).alloc (.cells #[c, d] T)).drew) (Below.refl _ _).drew (Below.refl _ _)
  exact ⟨k1, k2, k3, k4, ks, kb, pow10_next h kb⟩
theorem keepQ {w W w1 : World} {B : Nat} {a b1 c d : Value} (hb : Below W.heap.size W w1)
    (h : W.cell? ⟨B, 0, none⟩ = some a ∧ W.cell? ⟨B, 1, none⟩ = some b1 ∧ W.cell? ⟨B + 1, 0, none⟩ = some c ∧ W.cell? ⟨B + 1, 1, none⟩ = some d ∧ B + 2 ≤ W.heap.size ∧ Below B w W ∧ Pow10 W) :
    w1.cell? ⟨B, 0, none⟩ = some a ∧ w1.cell? ⟨B, 1, none⟩ = some b1 ∧ w1.cell? ⟨B + 1, 0, none⟩ = some c ∧ w1.cell? ⟨B + 1, 1, none⟩ = some d ∧ B + 2 ≤ w1.heap.size ∧ Below B w w1 ∧ Pow10 w1 := by
  obtain ⟨k1, k2, k3, k4, ks, kb⟩ := keepS hb ⟨h.1, h.2.1, h.2.2.1, h.2.2.2.1, h.2.2.2.2.1, h.2.2.2.2.2.1⟩
  exact ⟨k1, k2, k3, k4, ks, kb, pow10_next h.2.2.2.2.2.2 hb⟩
set_option maxHeartbeats 1000000 in
theorem order_any (n1 d1 n2 d2 : Nat) (h1 : n1 < 18446744073709551616) (h2 : d1 < 18446744073709551616) (h3 : n2 < 18446744073709551616) (h4 : d2 < 18446744073709551616) (w : World) (htab : Pow10 w) :
    Calls Tryd.prog 4 #[.agg #[.int .u64 n1, .int .u64 d1], .agg #[.int .u64 n2, .int .u64 d2]] w fun e w' => e = .returned (.bool true) ∧ Below w.heap.size w w' := by
  have C1 := cmp_any n1 d1 n2 d2 h1 h2 h3 h4
  have C2 := rcmp_any n1 d1 n2 d2
  have R1 := reduce_any n1 d1 h1 h2
  have R2 := rreduce_any n1 d1 h1 h2
  generalize cmpR n1 d1 n2 d2 = z at *
  generalize redN n1 d1 = x at *
  generalize redD n1 d1 = y at *
  have C1 := Lib.hid C1
  have C2 := Lib.hid C2
  have R1 := Lib.hid R1
  have R2 := Lib.hid R2
  have HB := Lib.hid (boxesP w (.int .u64 n1) (.int .u64 d1) (.int .u64 n2) (.int .u64 d2) 24 htab)
  clear h1 h2 h3 h4 htab
  go_enter Tryd.func4, Tryd.ntmps4
  go_wp2_with fail
  go_region_held3 (fun w' => w'.cell? ⟨w.heap.size, 0, none⟩ = some (Value.int .u64 n1) ∧ w'.cell? ⟨w.heap.size, 1, none⟩ = some (Value.int .u64 d1) ∧ w'.cell? ⟨w.heap.size + 1, 0, none⟩ = some (Value.int .u64 n2) ∧ w'.cell? ⟨w.heap.size + 1, 1, none⟩ = some (Value.int .u64 d2) ∧ w.heap.size + 2 ≤ w'.heap.size ∧ Below w.heap.size w w' ∧ Pow10 w')
    (first
      | exact keepQ hb1 ‹_›
      | exact keepQ hb2 ‹_›
      | exact keepQ hb3 ‹_›
      | exact keepQ hb4 ‹_›
      | exact keepQ hb5 ‹_›
      | exact HB.out
      | go_keep)
    (first
    | (go_at_call 14; refine (C1.out _).mono ?_; rintro e w1 ⟨rfl, hb1⟩)
    | (go_at_call 15; refine (C2.out _).mono ?_; rintro e w2 ⟨rfl, hb2⟩)
    | (go_at_call 16; refine (R1.out _).mono ?_; rintro e w3 ⟨rfl, hb3⟩)
    | (go_at_call 17; refine (R2.out _).mono ?_; rintro e w4 ⟨rfl, hb4⟩)
    | (go_at_call 7; refine (alive_any _ ?_).mono ?_; (· exact (‹_ ∧ _ ∧ _ ∧ _ ∧ _ ∧ _ ∧ Pow10 _›).2.2.2.2.2.2); rintro e w5 ⟨rfl, hb5⟩))
  rename_i hH
  go_wp2
  go_ret
  exact ⟨rfl, hH.2.2.2.2.2.1⟩
