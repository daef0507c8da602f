import Derived.Test.YtmhekahfgmmeaaaDoorCodI
import Derived.Deep.RegionWith
set_option linter.unusedVariables false
set_option linter.unusedSimpArgs false
namespace Go.Proofs.YtmhekahfgmmeaaaDoor
open Go.RowKit Go.Extern.Stop Go.Stop Go.Extern
set_option maxHeartbeats 400000 in
theorem error_empty (p : Addr) (f : Int) (w : World) (hT : TabW w) (hE : ErrAt w p f ⟨#[]⟩) :
    Calls Tryd.prog 19 #[.pointer (some p)] w fun e w' => e = .returned (.string (wordB f)) ∧ Below w.heap.size w w' := by
  have HW := Lib.hid (fun W (hB : Below w.heap.size w W) => cword_any f W (hT.on hB))
  have HV := Lib.hid (value_any p f ⟨#[]⟩ w hE)
  clear hE hT
  go_enter Tryd.func19, Tryd.ntmps19
  go_wp2_with (first
    | (go_at_call 25; refine HV.out.mono ?_; rintro e w1 ⟨rfl, hB⟩; have HB1 := Lib.hid hB; have HB2 := Lib.hid (hB.alloc hB.size (.cells #[.int .i64 f, .string ⟨#[]⟩] 50)); clear hB HV)
    | (go_at_call 10; refine (HW.out _ HB2.out).mono ?_; rintro e w2 ⟨rfl, hw'⟩; obtain rfl := hw'.symm))
  go_ret
  exact ⟨rfl, HB2.out⟩
set_option maxHeartbeats 1000000 in
theorem error_full (p : Addr) (f : Int) (s : ByteArray) (h0 : ¬ s.size = 0) (hs : s.size ≤ 1000) (w : World) (hT : TabW w) (hE : ErrAt w p f s) :
    Calls Tryd.prog 19 #[.pointer (some p)] w fun e w' => e = .returned (.string (wordB f ++ ⟨#[32]⟩ ++ s)) ∧ Below w.heap.size w w' := by
  have HW := Lib.hid (fun W (hB : Below w.heap.size w W) => cword_any f W (hT.on hB))
  have HV := Lib.hid (value_any p f s w hE)
  clear hE hT
  have hne : (s.toList == ([] : List UInt8)) = false := by
    rw [Lib.toList_data, beq_eq_false_iff_ne]
    intro e
    exact h0 (by rw [Lib.size_eq, e]; rfl)
  have hl := wordB_len f
  have hadd1 := fun W => run_string_add_sum (P := Tryd.prog) W (wordB f) ⟨#[32]⟩ (by show _ + 1 ≤ _; omega)
  have hadd2 := fun W => run_string_add_sum (P := Tryd.prog) W (wordB f ++ ⟨#[32]⟩) s (by rw [ByteArray.size_append]; show _ + 1 + _ ≤ _; omega)
  obtain ⟨x, hx⟩ : ∃ x, wordB f = x := ⟨_, rfl⟩
  rw [hx] at HW hadd1 hadd2 ⊢
  obtain ⟨y, hy⟩ : ∃ y, x ++ ⟨#[32]⟩ = y := ⟨_, rfl⟩
  rw [hy] at hadd1 hadd2 ⊢
  obtain ⟨z, hz⟩ : ∃ z, y ++ s = z := ⟨_, rfl⟩
  rw [hz] at hadd2 ⊢
  clear hx hy hz hl h0 hs
  go_enter Tryd.func19, Tryd.ntmps19
  go_wp2_with (go_at_call 25; refine HV.out.mono ?_; rintro e w1 ⟨rfl, hB⟩; have HB2 := Lib.hid (hB.alloc hB.size (.cells #[.int .i64 f, .string s] 50)); clear hB HV)
  have c1 : (w1.alloc (.cells #[.int .i64 f, .string s] 50)).cell? ⟨w1.heap.size, 0, none⟩ = some (.int .i64 f) := by simp
  have c2 : (w1.alloc (.cells #[.int .i64 f, .string s] 50)).cell? ⟨w1.heap.size, 1, none⟩ = some (.string s) := by simp
  obtain ⟨n, hn⟩ : ∃ n, w1.heap.size = n := ⟨_, rfl⟩
  obtain ⟨W2, hW2⟩ : ∃ W2, w1.alloc (.cells #[.int .i64 f, .string s] 50) = W2 := ⟨_, rfl⟩
  rw [hW2] at c1 c2 HB2 ⊢
  rw [hn] at c1 c2 ⊢
  clear hW2 hn
  go_region_with (go_at_call 10; refine (HW.out _ (by first | exact HB2.out.drew | exact HB2.out)).mono ?_; rintro e w3 ⟨rfl, hw'⟩; obtain rfl := hw'.symm)
  all_goals go_wp2
  all_goals go_ret
  all_goals exact ⟨rfl, HB2.out.drew⟩
theorem error_any (p : Addr) (f : Int) (s : ByteArray) (hs : s.size ≤ 1000) (w : World) (hT : TabW w) (hE : ErrAt w p f s) :
    Calls Tryd.prog 19 #[.pointer (some p)] w fun e w' => e = .returned (.string (toldB f s)) ∧ Below w.heap.size w w' := by
  by_cases h0 : s.size = 0
  · obtain rfl := size_zero h0
    rw [show toldB f ⟨#[]⟩ = wordB f from if_pos rfl]
    exact error_empty p f w hT hE
  · rw [show toldB f s = wordB f ++ ⟨#[32]⟩ ++ s from if_neg h0]
    exact error_full p f s h0 hs w hT hE
end Go.Proofs.YtmhekahfgmmeaaaDoor
