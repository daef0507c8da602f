import Derived.Test.YtifljelphniipaaPthS
set_option linter.unusedVariables false
set_option linter.unusedSimpArgs false
namespace Go.Proofs.Ytifljelphniipaa
open Go.RowKit
attribute [local go_sem ↓] Go.wp_at_zero Go.wp_at_succ
set_option maxHeartbeats 1000000 in
theorem pparts_heavy (S : PathSpec) (n s t at0 : Int) (a : Option Addr) (m c : Nat) (U : Value) (hl : lightB n m = false) (w : World) :
    Calls Try.prog 5 #[.agg #[.int .i64 n, .slice a m c], .int .i64 s, .int .i64 t, U, .int .i64 at0] w fun e w' => e = .returned (.bool true) ∧ Below w.heap.size w w' := by
  have HL := Lib.hid (fun W => light_any n a m c W)
  rw [hl] at HL
  have HB0 := Lib.hid ((Below.refl w.heap.size w).alloc (Nat.le_refl _) (.cells #[.int .i64 n, .slice a m c] 24))
  have HAL := Lib.hid (fun W => palive_any S W)
  clear hl S
  go_enter Try.func5, Try.ntmps5
  go_wp2_with (first
    | (go_at_call 7; refine (HL.out _).mono ?_; rintro e w1 ⟨rfl, hB⟩; have HB1 := Lib.hid (on_trans HB0.out hB); clear hB HL)
    | (go_at_call 8; refine (HAL.out _).mono ?_; rintro e w9 ⟨rfl, hB⟩; have HB2 := Lib.hid (on_trans HB1.out hB); clear hB HAL))
  go_ret
  exact ⟨rfl, HB2.out⟩
set_option maxHeartbeats 1000000 in
theorem pparts_long (S : PathSpec) (n s t at0 : Int) (a : Option Addr) (m c : Nat) (au : Option Addr) (k cu : Nat) (hl : lightB n m = true) (hk : 200 < k) (w : World) :
    Calls Try.prog 5 #[.agg #[.int .i64 n, .slice a m c], .int .i64 s, .int .i64 t, .slice au k cu, .int .i64 at0] w fun e w' => e = .returned (.bool true) ∧ Below w.heap.size w w' := by
  have HL := Lib.hid (fun W => light_any n a m c W)
  rw [hl] at HL
  have HB0 := Lib.hid ((Below.refl w.heap.size w).alloc (Nat.le_refl _) (.cells #[.int .i64 n, .slice a m c] 24))
  have HAL := Lib.hid (fun W => palive_any S W)
  have d1 : decide ((200 : Int) < (k : Int)) = true := decide_eq_true (by omega)
  have d1' : decide (200 < k) = true := decide_eq_true hk
  clear hl S hk
  go_enter Try.func5, Try.ntmps5
  go_wp2_with (first
    | (go_at_call 7; refine (HL.out _).mono ?_; rintro e w1 ⟨rfl, hB⟩; have HB1 := Lib.hid (on_trans HB0.out hB); clear hB HL)
    | (go_at_call 8; refine (HAL.out _).mono ?_; rintro e w9 ⟨rfl, hB⟩; have HB2 := Lib.hid (on_trans HB1.out hB); clear hB HAL))
  go_ret
  exact ⟨rfl, HB2.out⟩
set_option maxHeartbeats 1000000 in
theorem pparts_not (S : PathSpec) (n s t at0 : Int) (a : Option Addr) (m c : Nat) (es : List Ed) (l : List Int) (au : Option Addr) (k cu : Nat) (hm : es.length = m) (hk : l.length = k) (hl : lightB n m = true) (hk2 : k ≤ 200) (w : World) (h : EdgesAt w (.slice a m c) es) (hi : IntsAt w (.slice au k cu) l) (hno : isF n es s t l = false) :
    Calls Try.prog 5 #[.agg #[.int .i64 n, .slice a m c], .int .i64 s, .int .i64 t, .slice au k cu, .int .i64 at0] w fun e w' => e = .returned (.bool true) ∧ Below w.heap.size w w' := by
  have hm3 : m ≤ 300 := by unfold lightB at hl; simp at hl; exact hl.2
  have hg := agg2p w (.int .i64 n) (.slice a m c) 24
  have hb0 := (Below.refl w.heap.size w).alloc (Nat.le_refl _) (.cells #[.int .i64 n, .slice a m c] 24)
  have HP0 : Hid (PG w w.heap.size n (.slice a m c) (.slice au k cu) es l (w.alloc (.cells #[.int .i64 n, .slice a m c] 24))) := Lib.hid ⟨hg.1, hg.2, Lib.hid ⟨h.on hb0, hi.on hb0, hb0⟩⟩
  have HL := Lib.hid (fun W => light_any n a m c W)
  rw [hl] at HL
  have HI := Lib.hid (fun W (h : EdgesAt W (.slice a m c) es ∧ IntsAt W (.slice au k cu) l ∧ Below w.heap.size w W) => S.is n s t _ _ es l W (by omega) (by omega) h.1 h.2.1)
  rw [hno] at HI
  have HAL := Lib.hid (fun W => palive_any S W)
  have d1 : decide ((200 : Int) < (k : Int)) = false := decide_eq_false (by omega)
  have d1' : decide (200 < k) = false := decide_eq_false (by omega)
  have b0 := hg.1
  have b1 := hg.2
  clear hl S hm hk hm3 h hi hno hb0 hg
  go_enter Try.func5, Try.ntmps5
  go_wp2_with (first
    | (go_at_call 7; refine (HL.out _).mono ?_; rintro e w1 ⟨rfl, hB⟩; have HP1 := Lib.hid (HP0.out.on hB); clear b0 b1; have b0 := HP1.out.1; have b1 := HP1.out.2.1; clear hB HL)
    | (go_at_call 14; refine (HI.out _ HP1.out.2.2.out).mono ?_; rintro e w2 ⟨rfl, hB⟩; have HP2 := Lib.hid (HP1.out.on hB); clear b0 b1; have b0 := HP2.out.1; have b1 := HP2.out.2.1; clear hB HI)
    | (go_at_call 8; refine (HAL.out _).mono ?_; rintro e w9 ⟨rfl, hB⟩; have HB2 := Lib.hid (on_trans HP2.out.2.2.out.2.2 hB); clear hB HAL))
  go_ret
  exact ⟨rfl, HB2.out⟩
/-- PathParts' walk. -/
theorem pathparts_any (S : PathSpec) (n s t at0 : Int) (ha0 : -9223372036854775808 ≤ at0) (ha1 : at0 ≤ 9223372036854775807) {v u : Value} {es : List Ed} {l : List Int} (w : World) (h : EdgesAt w v es) (hi : IntsAt w u l) :
    Calls Try.prog 5 #[.agg #[.int .i64 n, v], .int .i64 s, .int .i64 t, u, .int .i64 at0] w fun e w' => e = .returned (.bool true) ∧ Below w.heap.size w w' := by
  have h' := h
  have hi' := hi
  obtain ⟨a, c, rfl, _, _⟩ := h
  obtain ⟨au, cu, rfl, _, _⟩ := hi
  cases hl : lightB n es.length
  · exact pparts_heavy S n s t at0 a _ c _ hl w
  · by_cases hk : l.length ≤ 200
    · cases hF : isF n es s t l
      · exact pparts_not S n s t at0 a _ c es l au _ cu rfl rfl hl hk w h' hi' hF
      · obtain ⟨out, ho, ht⟩ := (isF_iff ..).1 hF
        exact pparts_yes S n s t at0 ha0 ha1 a _ c es l out au _ cu rfl rfl hl hk w h' hi' ho ht
    · exact pparts_long S n s t at0 a _ c au _ cu hl (by omega) w
end Go.Proofs.Ytifljelphniipaa
