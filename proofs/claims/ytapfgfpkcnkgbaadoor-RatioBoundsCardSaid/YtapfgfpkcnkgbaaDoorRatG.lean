import Derived.Test.YtapfgfpkcnkgbaaDoorRatF
set_option linter.unusedVariables false
set_option linter.unusedSimpArgs false
namespace Go.Proofs.YtapfgfpkcnkgbaaDoor
open Go.RowKit Go.Sort Go.Lib
set_option maxHeartbeats 1000000 in
theorem bounds_any (v n d base most : Nat) (hv : v < 18446744073709551616) (hn : n < 18446744073709551616) (hd : d < 18446744073709551616) (hs : base < 18446744073709551616) (hm : most < 18446744073709551616) (w : World) (htab : Pow10 w) :
    Calls Tryd.prog 5 #[.int .u64 v, .agg #[.int .u64 n, .int .u64 d], .int .u64 base, .int .u64 most] w fun e w' => e = .returned (.bool true) ∧ Below w.heap.size w w' := by
  have A1 := within_any v n d base hv hn hd hs
  have A2 := rwithin_any v n d base hv hs
  have A3 := stretched_any v n d base hv hn hd hs
  have A4 := rstretched_any v n d base hv hs
  have A5 := up_any v n d most hv hn hm
  have A6 := rup_any v n d most hv hm
  generalize withinB v n d base = x at *
  generalize strB v n d base = y at *
  generalize upV v n d most = z at *
  have A1 := Lib.hid A1
  have A2 := Lib.hid A2
  have A3 := Lib.hid A3
  have A4 := Lib.hid A4
  have A5 := Lib.hid A5
  have A6 := Lib.hid A6
  have HB := Lib.hid (boxP w (.int .u64 n) (.int .u64 d) 24 htab)
  clear hv hn hd hs hm htab
  go_enter Tryd.func5, Tryd.ntmps5
  go_wp2_with fail
  go_region_held3 (fun w' => w'.cell? ⟨w.heap.size, 0, none⟩ = some (Value.int .u64 n) ∧ w'.cell? ⟨w.heap.size, 1, none⟩ = some (Value.int .u64 d) ∧ w.heap.size + 1 ≤ w'.heap.size ∧ Below w.heap.size w w' ∧ Pow10 w')
    (first
      | exact keepP hb1 ‹_›
      | exact keepP hb2 ‹_›
      | exact keepP hb3 ‹_›
      | exact keepP hb4 ‹_›
      | exact keepP hb5 ‹_›
      | exact keepP hb6 ‹_›
      | exact keepP hb7 ‹_›
      | exact ⟨HB.out.1, HB.out.2.1, HB.out.2.2.1, HB.out.2.2.2.1.drew, pow10_next HB.out.2.2.2.2 (Below.refl _ _).drew⟩
      | go_keep)
    (first
    | (go_at_call 18; refine (A1.out _).mono ?_; rintro e w1 ⟨rfl, hb1⟩)
    | (go_at_call 19; refine (A2.out _).mono ?_; rintro e w2 ⟨rfl, hb2⟩)
    | (go_at_call 20; refine (A3.out _).mono ?_; rintro e w3 ⟨rfl, hb3⟩)
    | (go_at_call 21; refine (A4.out _).mono ?_; rintro e w4 ⟨rfl, hb4⟩)
    | (go_at_call 22; refine (A5.out _).mono ?_; rintro e w5 ⟨rfl, hb5⟩)
    | (go_at_call 23; refine (A6.out _).mono ?_; rintro e w6 ⟨rfl, hb6⟩)
    | (go_at_call 7; refine (alive_any _ ?_).mono ?_; (· exact (‹_ ∧ _ ∧ _ ∧ _ ∧ Pow10 _›).2.2.2.2); rintro e w7 ⟨rfl, hb7⟩))
  rename_i hH
  go_wp2
  go_ret
  exact ⟨rfl, hH.2.2.2.1⟩
