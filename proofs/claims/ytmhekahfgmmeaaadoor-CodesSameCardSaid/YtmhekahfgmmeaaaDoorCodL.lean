import Derived.Test.YtmhekahfgmmeaaaDoorCodK
set_option linter.unusedVariables false
set_option linter.unusedSimpArgs false
namespace Go.Proofs.YtmhekahfgmmeaaaDoor
open Go.RowKit Go.Extern.Stop Go.Stop Go.Extern
set_option maxHeartbeats 2000000 in
theorem errslaw_ok (f : Int) (s : ByteArray) (n : Nat) (h0 : f ≠ 0) (hf : isF f = true) (hs : s.size ≤ 100) (hn : n ≤ 20) (w : World) (hT : TabW w) (hg : ErrT w) :
    Calls Tryd.prog 4 #[.int .i64 f, .string s, .int .i64 n] w fun e w' => e = .returned (.bool true) ∧ Below w.heap.size w w' := by
  have HN := Lib.hid (fun W => new_ok f s h0 hf W)
  have HI := Lib.hid (fun W => ris_any f W)
  rw [hf] at HI
  have HR := Lib.hid (fun W u x => wrapped_any u x n (by omega) W)
  have HE := Lib.hid (fun W p (hB : Below w.heap.size w W) (hE : ErrAt W p f s) => error_any p f s (by omega) W (hT.on hB) hE)
  have HO := Lib.hid (fun W => rtold_any f s (by omega) W)
  have HF := Lib.hid (fun W lo k u x p (hB : Below w.heap.size w W) (hC : Chain W lo k (.iface u x) (.iface 36 (.pointer (some p)))) (hE : ErrAt W p f s) => fault_hit lo k u x p f s W (hg.on hB) hC hE)
  have HM := Lib.hid (fun W lo k u x p (hB : Below w.heap.size w W) (hC : Chain W lo k (.iface u x) (.iface 36 (.pointer (some p)))) (hE : ErrAt W p f s) => about_hit lo k u x p f s W (hg.on hB) hC hE)
  have HL := Lib.hid (fun W (hB : Below w.heap.size w W) => calive_any W (hT.on hB) (hg.on hB))
  have HG := Lib.hid hg
  obtain ⟨T, hTo⟩ : ∃ T, toldB f s = T := ⟨_, rfl⟩
  rw [hTo] at HE HO
  have hb : (f == 0) = false := by rw [beq_eq_false_iff_ne]; exact h0
  clear hT hg hTo h0 hf
  go_enter Tryd.func4, Tryd.ntmps4
  go_wp2_with (first
    | (go_at_call 14; refine (HN.out _).mono ?_; rintro e w1 ⟨p, rfl, hE, hp, hB⟩; have HE1 := Lib.hid hE; have HP := Lib.hid hE.lt; have HB1 := Lib.hid hB; clear hE hp hB)
    | (go_at_call 11; refine (HI.out _).mono ?_; rintro e w2 ⟨rfl, hB⟩; have HE2 := Lib.hid (HE1.out.on hB); have HP := Lib.hid HE2.out.lt; have HB2 := Lib.hid (on_trans HB1.out hB); have HA2 := Lib.hid ((Below.refl w2.heap.size w2).alloc (Nat.le_refl _) (.cells #[.pointer none] 36)); clear hB)
    | (go_at_call 17; refine (HR.out _ _ _).mono ?_; rintro e w3 ⟨u3, x3, rfl, hC, hB⟩; have HC3 := Lib.hid hC; have ht3 := cell_on hB (show (w2.alloc (.cells #[.pointer none] 36)).cell? ⟨w2.heap.size, 0, none⟩ = some (.pointer none) from by simp); have HF3 := Lib.hid (frozen_on hB (show (w2.alloc (.cells #[.pointer none] 36)).cell? ⟨w2.heap.size, 0, none⟩ = some (.pointer none) from by simp) (by simp)); have HE3 := Lib.hid ((HE2.out.on HA2.out).on hB); have HB3 := Lib.hid (on_trans (on_trans HB2.out HA2.out) hB); clear hC hB)
    | (go_at_call 18; refine (As_hit _ _ _ _ p ⟨w2.heap.size, 0, none⟩ (.pointer none) _ (HG.out.on HB3.out) HC3.out ht3 HF3.out).mono ?_; rintro e w4 ⟨rfl, hT⟩; have hc := hT.1; have HE4 := Lib.hid (HE3.out.touch hT (by have := HP.out; show p.block ≠ w2.heap.size; omega)); have HC4 := Lib.hid (HC3.out.touch hT (by show w2.heap.size < _; simp)); have HB4 := Lib.hid (touch_below HB3.out hT HB2.out.size); clear hT ht3)
    | (go_at_call 19; refine (HE.out _ _ HB4.out HE4.out).mono ?_; rintro e w5 ⟨rfl, hB⟩; have HE5 := Lib.hid (HE4.out.on hB); have HC5 := Lib.hid (HC4.out.on hB); have HB5 := Lib.hid (on_trans HB4.out hB); clear hB)
    | (go_at_call 20; refine (HO.out _).mono ?_; rintro e w6 ⟨rfl, hB⟩; have HE6 := Lib.hid (HE5.out.on hB); have HC6 := Lib.hid (HC5.out.on hB); have HB6 := Lib.hid (on_trans HB5.out hB); clear hB)
    | (go_at_call 15; refine (HF.out _ _ _ _ _ _ HB6.out HC6.out HE6.out).mono ?_; rintro e w7 ⟨rfl, hB⟩; have HE7 := Lib.hid (HE6.out.on hB); have HC7 := Lib.hid (HC6.out.on hB); have HB7 := Lib.hid (on_trans HB6.out hB); clear hB)
    | (go_at_call 16; refine (HM.out _ _ _ _ _ _ HB7.out HC7.out HE7.out).mono ?_; rintro e w8 ⟨rfl, hB⟩; have HB8 := Lib.hid (on_trans HB7.out hB); clear hB)
    | (go_at_call 6; refine (HL.out _ HB8.out).mono ?_; rintro e w9 ⟨rfl, hB⟩; have HB9 := Lib.hid (on_trans HB8.out hB); clear hB))
  go_ret
  exact ⟨rfl, HB9.out⟩
set_option maxHeartbeats 1000000 in
theorem errslaw_nil (f : Int) (s : ByteArray) (n : Nat) (h : f = 0 ∨ isF f = false) (hs : s.size ≤ 100) (hn : n ≤ 20) (w : World) (hT : TabW w) (hg : ErrT w) :
    Calls Tryd.prog 4 #[.int .i64 f, .string s, .int .i64 n] w fun e w' => e = .returned (.bool true) ∧ Below w.heap.size w w' := by
  have HN := Lib.hid (fun W => new_nil f s h W)
  have HF := Lib.hid (fun W => fault_nil W)
  have HM := Lib.hid (fun W => about_nil W)
  have HL := Lib.hid (fun W (hB : Below w.heap.size w W) => calive_any W (hT.on hB) (hg.on hB))
  have HB0 := Lib.hid (Below.refl w.heap.size w)
  by_cases h0 : f = 0
  · subst h0
    clear hT hg h
    go_enter Tryd.func4, Tryd.ntmps4
    go_wp2_with (first
      | (go_at_call 14; refine (HN.out _).mono ?_; rintro e w1 ⟨rfl, hw'⟩; obtain rfl := hw'.symm)
      | (go_at_call 15; refine (HF.out _).mono ?_; rintro e w2 ⟨rfl, hB⟩; have HB2 := Lib.hid (on_trans HB0.out hB); clear hB)
      | (go_at_call 16; refine (HM.out _).mono ?_; rintro e w3 ⟨rfl, hB⟩; have HB3 := Lib.hid (on_trans HB2.out hB); clear hB)
      | (go_at_call 6; refine (HL.out _ HB3.out).mono ?_; rintro e w4 ⟨rfl, hB⟩; have HB4 := Lib.hid (on_trans HB3.out hB); clear hB))
    go_ret
    exact ⟨rfl, HB4.out⟩
  · have HI := Lib.hid (fun W => ris_any f W)
    rw [h.resolve_left h0] at HI
    have hb : (f == 0) = false := by rw [beq_eq_false_iff_ne]; exact h0
    clear hT hg h h0
    go_enter Tryd.func4, Tryd.ntmps4
    go_wp2_with (first
      | (go_at_call 14; refine (HN.out _).mono ?_; rintro e w1 ⟨rfl, hw'⟩; obtain rfl := hw'.symm)
      | (go_at_call 11; refine (HI.out _).mono ?_; rintro e w1 ⟨rfl, hB⟩; have HB1 := Lib.hid (on_trans HB0.out hB); clear hB)
      | (go_at_call 15; refine (HF.out _).mono ?_; rintro e w2 ⟨rfl, hB⟩; have HB2 := Lib.hid (on_trans HB1.out hB); clear hB)
      | (go_at_call 16; refine (HM.out _).mono ?_; rintro e w3 ⟨rfl, hB⟩; have HB3 := Lib.hid (on_trans HB2.out hB); clear hB)
      | (go_at_call 6; refine (HL.out _ HB3.out).mono ?_; rintro e w4 ⟨rfl, hB⟩; have HB4 := Lib.hid (on_trans HB3.out hB); clear hB))
    go_ret
    exact ⟨rfl, HB4.out⟩
set_option maxHeartbeats 1000000 in
theorem errslaw_out (f : Int) (s : ByteArray) (n : Int) (h : 100 < s.size ∨ n < 0 ∨ 20 < n) (w : World) (hT : TabW w) (hg : ErrT w) :
    Calls Tryd.prog 4 #[.int .i64 f, .string s, .int .i64 n] w fun e w' => e = .returned (.bool true) ∧ Below w.heap.size w w' := by
  have HL := Lib.hid (calive_any w hT hg)
  clear hT hg
  have hd : 100 < s.size ∨ (s.size ≤ 100 ∧ n < 0) ∨ (s.size ≤ 100 ∧ 0 ≤ n ∧ 20 < n) := by omega
  clear h
  rcases hd with h1 | ⟨h1, h2⟩ | ⟨h1, h2, h3⟩
  all_goals
    go_enter Tryd.func4, Tryd.ntmps4
    go_wp2_with (go_at_call 6; refine HL.out.mono ?_; rintro e w4 ⟨rfl, hB⟩)
    go_ret
    exact ⟨rfl, hB⟩
theorem errslaw_any (f : Int) (s : ByteArray) (n : Int) (w : World) (hT : TabW w) (hg : ErrT w) :
    Calls Tryd.prog 4 #[.int .i64 f, .string s, .int .i64 n] w fun e w' => e = .returned (.bool true) ∧ Below w.heap.size w w' := by
  by_cases h : 100 < s.size ∨ n < 0 ∨ 20 < n
  · exact errslaw_out f s n h w hT hg
  · obtain ⟨m, rfl⟩ : ∃ m : Nat, n = m := ⟨n.toNat, by omega⟩
    by_cases h0 : f = 0 ∨ isF f = false
    · exact errslaw_nil f s m h0 (by omega) (by omega) w hT hg
    · have h1 : f ≠ 0 := fun e => h0 (Or.inl e)
      have h2 : isF f = true := by
        cases e : isF f
        · exact absurd (Or.inr e) h0
        · rfl
      exact errslaw_ok f s m h1 h2 (by omega) (by omega) w hT hg
end Go.Proofs.YtmhekahfgmmeaaaDoor
