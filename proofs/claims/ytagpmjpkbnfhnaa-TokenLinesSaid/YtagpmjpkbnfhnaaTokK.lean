import Derived.Test.YtagpmjpkbnfhnaaTokJ
set_option linter.unusedVariables false
set_option linter.unusedSimpArgs false
namespace Go.Proofs.Ytagpmjpkbnfhnaa
open Go.RowKit
theorem wordsV_len (s : ByteArray) : (wordsV s).length ≤ 4000000 := by
  unfold wordsV
  split
  · simp
  · split
    · simp
    · split
      · simp
      · omega
theorem on_trans {w w1 w2 : World} (h1 : Below w.heap.size w w1) (h2 : Below w1.heap.size w1 w2) : Below w.heap.size w w2 := h1.trans (h2.mono h1.size)
set_option maxHeartbeats 1000000 in
theorem wordslaw_main (s : ByteArray) (hs : s.size ≤ 140737488355328) (h : s.size ≤ 3000 ∨ 65536 < s.size) (w : World) :
    Calls Try.prog 3 #[.string s] w fun e w' => e = .returned (.bool true) ∧ Below w.heap.size w w' := by
  have hm : s.size ≤ maxLen := by unfold maxLen; omega
  have HT := Lib.hid (fun W => twords_any s hm W)
  have HR := Lib.hid (fun W => rwords_any s hm W)
  have HU := Lib.hid (fun W => tupper_any s hm W)
  have HV := Lib.hid (fun W => rupper_any s hs W)
  have HX := Lib.hid (fun W => tright_any s hm W)
  have HY := Lib.hid (fun W => rright_any s hm W)
  have HL := Lib.hid (wordsV_len s)
  have HA := Lib.hid (fun W => alive_any W)
  generalize wordsF s = F at HT HR
  generalize wordsV s = V at HT HR HL
  generalize upB s = U at HU HV
  generalize rightB s = B at HX HY
  clear hm
  rcases h with h | h
  all_goals
    go_enter Try.func3, Try.ntmps3
    go_wp2_with (first
      | (go_at_call 8; refine (HT.out _).mono ?_; rintro e w1 ⟨v1, rfl, hS1, hB1⟩; have HS1 := Lib.hid hS1; have HB1 := Lib.hid hB1; clear hS1 hB1)
      | (go_at_call 9; refine (HR.out _).mono ?_; rintro e w2 ⟨v2, rfl, hS2, hB2⟩; have HS2 := Lib.hid hS2; have HS3 := Lib.hid (HS1.out.on hB2); have HB2 := Lib.hid (on_trans HB1.out hB2); clear hS2 hB2)
      | (go_at_call 10; refine (same_yes HL.out _ HS3.out HS2.out).mono ?_; rintro e w3 ⟨rfl, hB3⟩; have HB3 := Lib.hid (on_trans HB2.out hB3); clear hB3)
      | (go_at_call 11; refine (HU.out _).mono ?_; rintro e w4 ⟨rfl, hB4⟩; have HB4 := Lib.hid (on_trans HB3.out hB4); clear hB4)
      | (go_at_call 12; refine (HV.out _).mono ?_; rintro e w5 ⟨rfl, hB5⟩; have HB5 := Lib.hid (on_trans HB4.out hB5); clear hB5)
      | (go_at_call 13; refine (HX.out _).mono ?_; rintro e w' ⟨rfl, hw'⟩; obtain rfl := hw'.symm)
      | (go_at_call 14; refine (HY.out _).mono ?_; rintro e w' ⟨rfl, hw'⟩; obtain rfl := hw'.symm)
      | (go_at_call 7; refine (HA.out _).mono ?_; rintro e w6 ⟨rfl, hB6⟩; have HB6 := Lib.hid (on_trans HB5.out hB6); clear hB6))
    go_ret
    exact ⟨rfl, HB6.out⟩
set_option maxHeartbeats 400000 in
theorem wordslaw_mid (s : ByteArray) (h1 : 3000 < s.size) (h2 : s.size ≤ 65536) (w : World) :
    Calls Try.prog 3 #[.string s] w fun e w' => e = .returned (.bool true) ∧ Below w.heap.size w w' := by
  have HA := Lib.hid (fun W => alive_any W)
  go_enter Try.func3, Try.ntmps3
  go_wp2_with (go_at_call 7; refine (HA.out _).mono ?_; rintro e w6 ⟨rfl, hB6⟩)
  go_ret
  exact ⟨rfl, hB6⟩
theorem wordslaw_any (s : ByteArray) (hs : s.size ≤ 140737488355328) (w : World) :
    Calls Try.prog 3 #[.string s] w fun e w' => e = .returned (.bool true) ∧ Below w.heap.size w w' := by
  by_cases h : s.size ≤ 3000 ∨ 65536 < s.size
  · exact wordslaw_main s hs h w
  · exact wordslaw_mid s (by omega) (by omega) w
end Go.Proofs.Ytagpmjpkbnfhnaa
