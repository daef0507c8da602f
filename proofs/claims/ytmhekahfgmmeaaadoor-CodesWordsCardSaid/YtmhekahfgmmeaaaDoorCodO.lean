import Derived.Test.YtmhekahfgmmeaaaDoorCodN
set_option linter.unusedVariables false
set_option linter.unusedSimpArgs false
namespace Go.Proofs.YtmhekahfgmmeaaaDoor
open Go.RowKit Go.Extern.Stop Go.Stop Go.Extern
/-- Fifteen cells of which the first so many have been filled. -/
def Filled (w : World) (b k : Nat) : Prop := ∀ j, j < 15 → w.frozen? ⟨b, j, none⟩ = false ∧ ∃ v, w.cell? ⟨b, j, none⟩ = some v ∧ (j < k → v = .int .i64 (j : Int))
theorem Filled.succ {w : World} {b k : Nat} (h : Filled w b k) (hk : k < 15) : Filled (w.setCell ⟨b, k, none⟩ (.int .i64 (k : Int))) b (k + 1) := by
  intro j hj
  obtain ⟨h1, v, h2, h3⟩ := h j hj
  refine ⟨by rw [World.frozen?_setCell]; exact h1, ?_⟩
  by_cases e : j = k
  · subst e
    exact ⟨_, World.cell?_setCell_same _ _ _ h2, fun _ => rfl⟩
  · exact ⟨v, by rw [World.cell?_setCell_other _ _ _ _ (by simp [e])]; exact h2, fun hlt => h3 (by omega)⟩
theorem mkF (w : World) : (Instr.makeSlice 26 (.int .i64 15) (.int .i64 15)).run Tryd.prog w = .ok (.slice (some ⟨w.heap.size, 0, none⟩) 15 15) (w.alloc (.cells (Array.replicate 15 (.int .i64 0)) 22)) := by kernel_rfl
set_option maxRecDepth 20000 in
set_option maxHeartbeats 1000000 in
theorem call_any (w : World) :
    Calls Tryd.prog 9 #[] w fun e w' => ∃ (b c : Nat), e = .returned (.slice (some ⟨b, 0, none⟩) 15 c) ∧ (∀ j, j < 15 → w'.cell? ⟨b, j, none⟩ = some (.int .i64 (j : Int))) ∧ Below w.heap.size w w' := by
  have hmk := mkF
  go_enter Tryd.func9, Tryd.ntmps9
  go_wp2
  clear hmk
  have HF0 : Hid (Filled (w.alloc (.cells (Array.replicate 15 (.int .i64 0)) 22)) w.heap.size 0) := Lib.hid fun j hj => ⟨World.frozen?_alloc_new _ _ _ _, .int .i64 0, by rw [World.cell?_alloc_new]; simp [hj], fun h => by omega⟩
  have HB0 := Lib.hid ((Below.refl w.heap.size w).alloc (Nat.le_refl _) (.cells (Array.replicate 15 (.int .i64 0)) 22))
  go_loopw [2, 6] (fun _ i wr => ∃ k : Nat, k ≤ 15 ∧ i = .int .i64 k ∧ Hid (Filled wr w.heap.size k) ∧ Hid (Below w.heap.size w wr)) (fun _ i _ => 15 - (RowKit.intOf i).toNat)
  case atStart => exact ⟨0, by omega, rfl, HF0, HB0⟩
  case round =>
    obtain ⟨k, hk, rfl, HF, HB⟩ := hrel
    by_cases hlt : k < 15
    · obtain ⟨hf, v, hc, _⟩ := HF.out k hlt
      have HF' := Lib.hid (HF.out.succ hlt)
      have HB' := Lib.hid (HB.out.setCell (p := ⟨w.heap.size, k, none⟩) (Nat.le_refl _) (.int .i64 (k : Int)))
      clear HF HB HF0 HB0
      go_wp2
      go_roundw
      case rel => exact ⟨k + 1, by omega, by go_num, HF', HB'⟩
      case measure => simp [RowKit.intOf] <;> omega
    · obtain rfl : k = 15 := by omega
      go_wp2
      go_ret
      refine ⟨_, _, rfl, fun j hj => ?_, HB.out⟩
      obtain ⟨_, v, h2, h3⟩ := HF.out j hj
      rw [h2, h3 hj]
theorem of_words : ∀ m : Fin 15, ofIs (wordN m.1) = true ∧ ofV (wordN m.1) = m.1 := by decide
theorem of_empty : ofIs ⟨#[]⟩ = false := by decide
set_option maxHeartbeats 2000000 in
theorem wordslaw_walk (f : Int) (s : ByteArray) (hs : s.size ≤ 100) (C : Int) (T : Bool) (X : ByteArray) (w : World) (hCT : T = false ∨ (T = true ∧ C = f))
    (HO1 : Hid (∀ W, Below w.heap.size w W → Calls Tryd.prog 7 #[.string s] W fun e w' => e = .returned (.tuple #[.int .i64 (ofV s : Nat), .bool (ofIs s)]) ∧ w' = W))
    (HO3 : Hid (∀ W, Below w.heap.size w W → Calls Tryd.prog 7 #[.string X] W fun e w' => e = .returned (.tuple #[.int .i64 C, .bool T]) ∧ w' = W))
    (HW1 : Hid (∀ W, Below w.heap.size w W → Calls Tryd.prog 10 #[.int .i64 f] W fun e w' => e = .returned (.string X) ∧ w' = W))
    (HW2 : Hid (∀ W, Calls Tryd.prog 12 #[.int .i64 f] W fun e w' => e = .returned (.string X) ∧ Below W.heap.size W w'))
    (HI1 : Hid (∀ W, Calls Tryd.prog 13 #[.int .i64 f] W fun e w' => e = .returned (.bool T) ∧ w' = W))
    (HI2 : Hid (∀ W, Calls Tryd.prog 11 #[.int .i64 f] W fun e w' => e = .returned (.bool T) ∧ Below W.heap.size W w'))
    (HL : Hid (∀ W, Below w.heap.size w W → Calls Tryd.prog 6 #[] W fun e w' => e = .returned (.bool true) ∧ Below W.heap.size W w')) :
    Calls Tryd.prog 3 #[.int .i64 f, .string s] w fun e w' => e = .returned (.bool true) ∧ Below w.heap.size w w' := by
  have HO2 := Lib.hid (fun W => rof_any s W)
  have HA := Lib.hid (fun W => call_any W)
  have HB := Lib.hid (Below.refl w.heap.size w)
  generalize ofV s = V at HO1 HO2
  generalize ofIs s = I at HO1 HO2
  go_enter Tryd.func3, Tryd.ntmps3
  go_wp2_with (first
      | (go_at_call_of 7 (Value.string s); refine (HO1.out _ HB.out).mono ?_; rintro e w' ⟨rfl, hw'⟩; obtain rfl := hw'.symm)
      | (go_at_call 8; refine (HO2.out _).mono ?_; rintro e w1 ⟨rfl, hB⟩; have HB := Lib.hid (on_trans HB.out hB); clear hB)
      | (go_at_call 9; refine (HA.out _).mono ?_; rintro e w2 ⟨b, c, rfl, hc, hB⟩; have HC := Lib.hid hc; have HB := Lib.hid (on_trans HB.out hB); clear hc hB))
  clear HO1 HO2 HA
  go_loop [10] (fun i => ∃ k : Nat, k ≤ 15 ∧ i = .int .i64 k) (fun i => 15 - (RowKit.intOf i).toNat)
  case atStart => exact ⟨0, by omega, rfl⟩
  case round =>
    obtain ⟨k, hk, rfl⟩ := hrel
    by_cases hlt : k < 15
    · have hc := HC.out k hlt
      go_wp2
      go_round
      case rel => exact ⟨k + 1, by omega, by go_num⟩
      case measure => simp [RowKit.intOf] <;> omega
    · obtain rfl : k = 15 := by omega
      clear HC
      rcases hCT with rfl | ⟨rfl, rfl⟩
      all_goals
        go_wp2_with (first
        | (go_at_call 10; refine (HW1.out _ HB.out).mono ?_; rintro e w' ⟨rfl, hw'⟩; obtain rfl := hw'.symm)
        | (go_at_call 7; refine (HO3.out _ HB.out).mono ?_; rintro e w' ⟨rfl, hw'⟩; obtain rfl := hw'.symm)
        | (go_at_call 11; refine (HI2.out _).mono ?_; rintro e w3 ⟨rfl, hB⟩; have HB := Lib.hid (on_trans HB.out hB); clear hB)
        | (go_at_call 12; refine (HW2.out _).mono ?_; rintro e w4 ⟨rfl, hB⟩; have HB := Lib.hid (on_trans HB.out hB); clear hB)
        | (go_at_call 13; refine (HI1.out _).mono ?_; rintro e w' ⟨rfl, hw'⟩; obtain rfl := hw'.symm)
        | (go_at_call 6; refine (HL.out _ HB.out).mono ?_; rintro e w5 ⟨rfl, hB⟩; have HB := Lib.hid (on_trans HB.out hB); clear hB))
        go_ret
        exact ⟨rfl, HB.out⟩
theorem wordslaw_in (f : Int) (s : ByteArray) (hs : s.size ≤ 100) (w : World) (hT : TabW w) (hg : ErrT w) :
    Calls Tryd.prog 3 #[.int .i64 f, .string s] w fun e w' => e = .returned (.bool true) ∧ Below w.heap.size w w' := by
  have h0 : ofIs (wordB f) = isF f ∧ (isF f = false ∨ (isF f = true ∧ ((ofV (wordB f) : Nat) : Int) = f)) := by
    cases e : isF f
    · rw [wordB_out e]
      exact ⟨of_empty, Or.inl rfl⟩
    · obtain ⟨n, rfl, hn⟩ := isF_of e
      rw [wordB_in hn]
      have h1 := of_words ⟨n, hn⟩
      exact ⟨h1.1, Or.inr ⟨rfl, by rw [h1.2]⟩⟩
  exact wordslaw_walk f s hs _ (isF f) (wordB f) w h0.2 (Lib.hid fun W hB => cof_any s W (hT.on hB)) (Lib.hid fun W hB => by have h2 := cof_any (wordB f) W (hT.on hB); rw [h0.1] at h2; exact h2)
    (Lib.hid fun W hB => cword_any f W (hT.on hB)) (Lib.hid fun W => rword_any f W) (Lib.hid fun W => cis_any f W) (Lib.hid fun W => ris_any f W) (Lib.hid fun W hB => calive_any W (hT.on hB) (hg.on hB))
set_option maxHeartbeats 400000 in
theorem wordslaw_out (f : Int) (s : ByteArray) (hs : 100 < s.size) (w : World) (hT : TabW w) (hg : ErrT w) :
    Calls Tryd.prog 3 #[.int .i64 f, .string s] w fun e w' => e = .returned (.bool true) ∧ Below w.heap.size w w' := by
  have HL := Lib.hid (calive_any w hT hg)
  clear hT hg
  go_enter Tryd.func3, Tryd.ntmps3
  go_wp2_with (go_at_call 6; refine HL.out.mono ?_; rintro e w4 ⟨rfl, hB⟩)
  go_ret
  exact ⟨rfl, hB⟩
theorem wordslaw_any (f : Int) (s : ByteArray) (w : World) (hT : TabW w) (hg : ErrT w) :
    Calls Tryd.prog 3 #[.int .i64 f, .string s] w fun e w' => e = .returned (.bool true) ∧ Below w.heap.size w w' := by
  by_cases h : s.size ≤ 100
  · exact wordslaw_in f s h w hT hg
  · exact wordslaw_out f s (by omega) w hT hg
end Go.Proofs.YtmhekahfgmmeaaaDoor
