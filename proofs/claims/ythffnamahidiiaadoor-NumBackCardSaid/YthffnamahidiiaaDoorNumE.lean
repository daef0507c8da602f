import Derived.Test.YthffnamahidiiaaDoorNumD
set_option linter.unusedVariables false
namespace Go.Proofs.YthffnamahidiiaaDoor
open Go.RowKit Go.Sort Go.Lib
theorem add_top (w : World) : Calls Tryd.prog 8 #[.int .u64 18446744073709551615, .int .u64 1] w fun e w' => e = .returned (.tuple #[.int .u64 0, .int .i64 6]) ∧ w' = w := by
  have h := add_any 18446744073709551615 1 (by omega) (by omega) w
  rw [cutV_no (by omega), cutF_no (by omega)] at h
  exact h
theorem parse_007 (w : World) : Calls Tryd.prog 19 #[.string ⟨#[48, 48, 55]⟩] w fun e w' => e = .returned (.tuple #[.int .u64 0, .int .i64 3]) ∧ w' = w := by
  have h := parse_any ⟨#[48, 48, 55]⟩ (by decide) w
  exact h
theorem parse_70 (w : World) : Calls Tryd.prog 19 #[.string ⟨#[55, 48]⟩] w fun e w' => e = .returned (.tuple #[.int .u64 70, .int .i64 0]) ∧ w' = w := by
  have h := parse_any ⟨#[55, 48]⟩ (by decide) w
  have e1 : parseV (ByteArray.data ⟨#[55, 48]⟩).toList = 70 := by decide
  have e2 : parseF (ByteArray.data ⟨#[55, 48]⟩).toList = 0 := by decide
  rw [e1, e2] at h
  exact h
theorem alive_any (w : World) : Calls Tryd.prog 7 #[] w fun e w' => e = .returned (.bool true) ∧ w' = w := by
  go_enter Tryd.func7, Tryd.ntmps7
  go_wp2_with (first
    | (go_at_call 8; refine (add_top _).mono ?_; rintro e w' ⟨rfl, rfl⟩)
    | (go_at_call_of 19 (Value.string ⟨#[48, 48, 55]⟩); refine (parse_007 _).mono ?_; rintro e w' ⟨rfl, rfl⟩)
    | (go_at_call_of 19 (Value.string ⟨#[55, 48]⟩); refine (parse_70 _).mono ?_; rintro e w' ⟨rfl, rfl⟩)
    | (go_at_call 23; refine (print70 _).mono ?_; rintro e w' ⟨rfl, rfl⟩))
  go_ret
  exact ⟨rfl, rfl⟩

theorem reckons_any (a b : Nat) (i n : Int) (ha : a < 18446744073709551616) (hb : b < 18446744073709551616) (h0 : -9223372036854775808 ≤ i) (h1 : i ≤ 9223372036854775807) (h2 : -9223372036854775808 ≤ n) (h3 : n ≤ 9223372036854775807) (w : World) :
    Calls Tryd.prog 3 #[.int .u64 a, .int .u64 b, .int .i64 i, .int .i64 n] w fun e w' => e = .returned (.bool true) ∧ w' = w := by
  by_cases hbig : 4611686018427387904 < n
  · go_enter Tryd.func3, Tryd.ntmps3
    go_wp2_with (first
      | (go_at_call 7; refine (alive_any _).mono ?_; rintro e w' ⟨rfl, rfl⟩))
    go_ret
    exact ⟨rfl, rfl⟩
  · have A1 := Lib.hid (add_any a b ha hb)
    have A2 := Lib.hid (radd_any a b ha hb)
    have A3 := Lib.hid (sub_any a b ha hb)
    have A4 := Lib.hid (rsub_any a b ha hb)
    have A5 := Lib.hid (mul_any a b ha hb)
    have A6 := Lib.hid (rmul_any a b ha hb)
    have A7 := Lib.hid (mod_any i n h0 h1 h2 h3)
    have A8 := Lib.hid (rmod_any i n h0 h1 h2 h3)
    go_enter Tryd.func3, Tryd.ntmps3
    go_wp2_with (first
      | (go_at_call 7; refine (alive_any _).mono ?_; rintro e w' ⟨rfl, rfl⟩)
      | (go_at_call 8; refine (A1.out _).mono ?_; rintro e w' ⟨rfl, rfl⟩)
      | (go_at_call 9; refine (A2.out _).mono ?_; rintro e w' ⟨rfl, rfl⟩)
      | (go_at_call 10; refine (A3.out _).mono ?_; rintro e w' ⟨rfl, rfl⟩)
      | (go_at_call 11; refine (A4.out _).mono ?_; rintro e w' ⟨rfl, rfl⟩)
      | (go_at_call 12; refine (A5.out _).mono ?_; rintro e w' ⟨rfl, rfl⟩)
      | (go_at_call 13; refine (A6.out _).mono ?_; rintro e w' ⟨rfl, rfl⟩)
      | (go_at_call 14; refine (cap_any _ _ _).mono ?_; rintro e w' ⟨rfl, rfl⟩)
      | (go_at_call 15; refine (A7.out _).mono ?_; rintro e w' ⟨rfl, rfl⟩)
      | (go_at_call 16; refine (A8.out _).mono ?_; rintro e w' ⟨rfl, rfl⟩))
    go_ret
    exact ⟨rfl, rfl⟩
theorem texts_any (n : Nat) (s : ByteArray) (most : Int) (hn : n < 18446744073709551616) (hs : s.size ≤ maxLen) (h1 : -9223372036854775808 ≤ most) (h2 : most ≤ 9223372036854775807) (w : World) (htab : Pow10 w) :
    Calls Tryd.prog 5 #[.int .u64 n, .string s, .int .i64 most] w fun e w' => e = .returned (.bool true) ∧ Below w.heap.size w w' := by
  have hs' := hs
  unfold maxLen at hs'
  by_cases hbig : 100 < s.size
  · clear htab
    go_enter Tryd.func5, Tryd.ntmps5
    go_wp2_with (first
      | (go_at_call 7; refine (alive_any _).mono ?_; rintro e w' ⟨rfl, rfl⟩))
    go_ret
    exact ⟨rfl, Below.refl _ _⟩
  · have A1 := Lib.hid (parse_any s hs)
    have A2 := Lib.hid (rparse_any s hs)
    have A3 := Lib.hid (int_any s most hs h1 h2)
    have A4 := Lib.hid (rint_any s most hs h1 h2)
    have A5 := Lib.hid (print_any n hn w htab)
    have A6 := Lib.hid (rprint_any n hn)
    clear htab hs
    go_enter Tryd.func5, Tryd.ntmps5
    go_wp2_with (first
      | (go_at_call 7; refine (alive_any _).mono ?_; rintro e w' ⟨rfl, rfl⟩)
      | (go_at_call 19; refine (A1.out _).mono ?_; rintro e w' ⟨rfl, rfl⟩)
      | (go_at_call 20; refine (A2.out _).mono ?_; rintro e w' ⟨rfl, rfl⟩)
      | (go_at_call 21; refine (A3.out _).mono ?_; rintro e w' ⟨rfl, rfl⟩)
      | (go_at_call 22; refine (A4.out _).mono ?_; rintro e w' ⟨rfl, rfl⟩)
      | (go_at_call 23; refine A5.out.mono ?_; rintro e w1 ⟨rfl, hb1⟩)
      | (go_at_call 24; refine (A6.out _).mono ?_; rintro e w2 ⟨rfl, hb2⟩))
    go_ret
    exact ⟨rfl, hb1.trans (hb2.mono hb1.size)⟩
