import Derived.Test.YtmhekahfgmmeaaaDoorCodL
set_option linter.unusedVariables false
set_option linter.unusedSimpArgs false
namespace Go.Proofs.YtmhekahfgmmeaaaDoor
open Go.RowKit Go.Extern.Stop Go.Stop Go.Extern
theorem enew_any (s : ByteArray) (w : World) :
    Calls Tryd.prog 21 #[.string s] w fun e w' => ∃ r : Addr, e = .returned (.iface 69 (.pointer (some r))) ∧ Below w.heap.size w w' := by
  go_enter Tryd.func21, Tryd.ntmps21
  go_wp2
  go_ret
  exact ⟨_, rfl, (Below.refl _ _).alloc (Nat.le_refl _) _⟩
theorem addr_ne {w : World} {p q : Addr} {f : Int} {s : ByteArray} (hp : ErrAt w p f s) (hq : w.heap.size ≤ q.block) : p ≠ q := fun e => by
  have := hp.lt
  rw [e] at this
  omega
set_option maxHeartbeats 2000000 in
theorem samelaw_ok (f g : Int) (n : Nat) (hf0 : f ≠ 0) (hf : isF f = true) (hg0 : g ≠ 0) (hgf : isF g = true) (hn : n ≤ 20) (w : World) (hT : TabW w) (hg : ErrT w) :
    Calls Tryd.prog 5 #[.int .i64 f, .int .i64 g, .int .i64 n] w fun e w' => e = .returned (.bool true) ∧ Below w.heap.size w w' := by
  have HI1 := Lib.hid (fun W => ris_any f W)
  rw [hf] at HI1
  have HI2 := Lib.hid (fun W => ris_any g W)
  rw [hgf] at HI2
  have HN1 := Lib.hid (fun W => new_ok f ⟨#[97]⟩ hf0 hf W)
  have HN2 := Lib.hid (fun W => new_ok g ⟨#[98]⟩ hg0 hgf W)
  have HR := Lib.hid (fun W u x => wrapped_any u x n (by omega) W)
  have HL := Lib.hid (fun W (hB : Below w.heap.size w W) => calive_any W (hT.on hB) (hg.on hB))
  have HG := Lib.hid hg
  have HB := Lib.hid (Below.refl w.heap.size w)
  have hb1 : (f == 0) = false := by rw [beq_eq_false_iff_ne]; exact hf0
  have hb2 : (g == 0) = false := by rw [beq_eq_false_iff_ne]; exact hg0
  clear hT hg hf hgf hf0 hg0
  go_enter Tryd.func5, Tryd.ntmps5
  go_wp2_with (first
    | (go_at_call_of 11 (Value.int .i64 f); refine (HI1.out _).mono ?_; rintro e w1 ⟨rfl, hB⟩; have HB := Lib.hid (on_trans HB.out hB); clear hB)
    | (go_at_call_of 11 (Value.int .i64 g); refine (HI2.out _).mono ?_; rintro e w2 ⟨rfl, hB⟩; have HB := Lib.hid (on_trans HB.out hB); clear hB)
    | (go_at_call_of 14 (Value.string ⟨#[97]⟩); refine (HN1.out _).mono ?_; rintro e w3 ⟨p, rfl, hE, hp, hB⟩; have HP := Lib.hid hE; have HB := Lib.hid (on_trans HB.out hB); clear hE hp hB)
    | (go_at_call_of 14 (Value.string ⟨#[98]⟩); refine (HN2.out _).mono ?_; rintro e w4 ⟨q, rfl, hE, hq, hB⟩; have HNE := Lib.hid (addr_ne HP.out hq); have HP := Lib.hid (HP.out.on hB); have HQ := Lib.hid hE; have HB := Lib.hid (on_trans HB.out hB); clear hE hq hB)
    | (go_at_call 21; refine (enew_any _ _).mono ?_; rintro e w5 ⟨r, rfl, hB⟩; have HP := Lib.hid (HP.out.on hB); have HQ := Lib.hid (HQ.out.on hB); have HB := Lib.hid (on_trans HB.out hB); clear hB)
    | (go_at_call_of 17 (Value.iface 36 (.pointer (some p))); refine (HR.out _ _ _).mono ?_; rintro e w6 ⟨u3, x3, rfl, hC, hB⟩; have HCa := Lib.hid hC; have HP := Lib.hid (HP.out.on hB); have HQ := Lib.hid (HQ.out.on hB); have HB := Lib.hid (on_trans HB.out hB); clear hC hB)
    | (go_at_call_of 22 (Value.iface 36 (.pointer (some q))); refine (Is_err _ _ _ _ p q (f == g) _ HCa.out f g _ _ HNE.out HP.out HQ.out (Lib.hid (fun W hW => eis_err p q f g _ _ W (HP.out.on hW) (HQ.out.on hW)))).mono ?_; rintro e w7 ⟨rfl, hB⟩; have HP := Lib.hid (HP.out.on hB); have HQ := Lib.hid (HQ.out.on hB); have HB := Lib.hid (on_trans HB.out hB); clear hB)
    | (go_at_call_of 15 (Value.iface 69 (.pointer (some r))); refine (fault_other 0 0 _ _ _ _ (HG.out.on HB.out) rfl).mono ?_; rintro e w8 ⟨rfl, hB⟩; have HP := Lib.hid (HP.out.on hB); have HQ := Lib.hid (HQ.out.on hB); have HB := Lib.hid (on_trans HB.out hB); clear hB)
    | (go_at_call 16; refine (about_other 0 0 _ _ _ _ (HG.out.on HB.out) rfl).mono ?_; rintro e w9 ⟨rfl, hB⟩; have HP := Lib.hid (HP.out.on hB); have HQ := Lib.hid (HQ.out.on hB); have HB := Lib.hid (on_trans HB.out hB); clear hB)
    | (go_at_call_of 17 (Value.iface 69 (.pointer (some r))); refine (HR.out _ _ _).mono ?_; rintro e w10 ⟨u4, x4, rfl, hC, hB⟩; have HCo := Lib.hid hC; have HP := Lib.hid (HP.out.on hB); have HQ := Lib.hid (HQ.out.on hB); have HB := Lib.hid (on_trans HB.out hB); clear hC hB)
    | (go_at_call 15; refine (fault_other _ _ _ _ _ _ (HG.out.on HB.out) HCo.out).mono ?_; rintro e w11 ⟨rfl, hB⟩; have HP := Lib.hid (HP.out.on hB); have HQ := Lib.hid (HQ.out.on hB); have HB := Lib.hid (on_trans HB.out hB); clear hB)
    | (go_at_call_of 22 (Value.iface 69 (.pointer (some r))); refine (Is_other _ _ _ _ p r false _ HCa.out (Lib.hid (fun W hW => eis_other p r W))).mono ?_; rintro e w12 ⟨rfl, hB⟩; have HB := Lib.hid (on_trans HB.out hB); clear hB)
    | (go_at_call 6; refine (HL.out _ HB.out).mono ?_; rintro e w13 ⟨rfl, hB⟩; have HB := Lib.hid (on_trans HB.out hB); clear hB))
  go_ret
  exact ⟨rfl, HB.out⟩
set_option maxHeartbeats 2000000 in
theorem samelaw_out (f g n : Int) (h : n < 0 ∨ 20 < n ∨ f = 0 ∨ g = 0 ∨ isF f = false ∨ isF g = false) (w : World) (hT : TabW w) (hg : ErrT w) :
    Calls Tryd.prog 5 #[.int .i64 f, .int .i64 g, .int .i64 n] w fun e w' => e = .returned (.bool true) ∧ Below w.heap.size w w' := by
  have HL := Lib.hid (fun W (hB : Below w.heap.size w W) => calive_any W (hT.on hB) (hg.on hB))
  have HB := Lib.hid (Below.refl w.heap.size w)
  have HI1 := Lib.hid (fun W => ris_any f W)
  have HI2 := Lib.hid (fun W => ris_any g W)
  clear hT hg
  by_cases c1 : n < 0
  · clear h
    go_enter Tryd.func5, Tryd.ntmps5
    go_wp2_with (first | (go_at_call 6; refine (HL.out _ HB.out).mono ?_; rintro e w13 ⟨rfl, hB⟩; have HB := Lib.hid (on_trans HB.out hB); clear hB))
    go_ret
    exact ⟨rfl, HB.out⟩
  · by_cases c2 : 20 < n
    · clear h
      have c1' : 0 ≤ n := by omega
      clear c1
      go_enter Tryd.func5, Tryd.ntmps5
      go_wp2_with (first | (go_at_call 6; refine (HL.out _ HB.out).mono ?_; rintro e w13 ⟨rfl, hB⟩; have HB := Lib.hid (on_trans HB.out hB); clear hB))
      go_ret
      exact ⟨rfl, HB.out⟩
    · have c1' : 0 ≤ n := by omega
      have c2' : n ≤ 20 := by omega
      by_cases c3 : f = 0
      · subst c3
        clear h c1 c2
        go_enter Tryd.func5, Tryd.ntmps5
        go_wp2_with (first | (go_at_call 6; refine (HL.out _ HB.out).mono ?_; rintro e w13 ⟨rfl, hB⟩; have HB := Lib.hid (on_trans HB.out hB); clear hB))
        go_ret
        exact ⟨rfl, HB.out⟩
      · have hb1 : (f == 0) = false := by rw [beq_eq_false_iff_ne]; exact c3
        by_cases c4 : g = 0
        · subst c4
          clear h c1 c2 c3
          go_enter Tryd.func5, Tryd.ntmps5
          go_wp2_with (first | (go_at_call 6; refine (HL.out _ HB.out).mono ?_; rintro e w13 ⟨rfl, hB⟩; have HB := Lib.hid (on_trans HB.out hB); clear hB))
          go_ret
          exact ⟨rfl, HB.out⟩
        · have hb2 : (g == 0) = false := by rw [beq_eq_false_iff_ne]; exact c4
          cases c5 : isF f
          · rw [c5] at HI1
            clear h c1 c2 c3 c4 c5
            go_enter Tryd.func5, Tryd.ntmps5
            go_wp2_with (first | (go_at_call_of 11 (Value.int .i64 f); refine (HI1.out _).mono ?_; rintro e w1 ⟨rfl, hB⟩; have HB := Lib.hid (on_trans HB.out hB); clear hB) | (go_at_call 6; refine (HL.out _ HB.out).mono ?_; rintro e w13 ⟨rfl, hB⟩; have HB := Lib.hid (on_trans HB.out hB); clear hB))
            go_ret
            exact ⟨rfl, HB.out⟩
          · have c6 : isF g = false := by
              rcases h with h | h | h | h | h | h
              · omega
              · omega
              · exact absurd h c3
              · exact absurd h c4
              · rw [c5] at h; cases h
              · exact h
            rw [c5] at HI1
            rw [c6] at HI2
            clear h c1 c2 c3 c4 c5 c6
            go_enter Tryd.func5, Tryd.ntmps5
            go_wp2_with (first | (go_at_call_of 11 (Value.int .i64 f); refine (HI1.out _).mono ?_; rintro e w1 ⟨rfl, hB⟩; have HB := Lib.hid (on_trans HB.out hB); clear hB) | (go_at_call_of 11 (Value.int .i64 g); refine (HI2.out _).mono ?_; rintro e w2 ⟨rfl, hB⟩; have HB := Lib.hid (on_trans HB.out hB); clear hB) | (go_at_call 6; refine (HL.out _ HB.out).mono ?_; rintro e w13 ⟨rfl, hB⟩; have HB := Lib.hid (on_trans HB.out hB); clear hB))
            go_ret
            exact ⟨rfl, HB.out⟩
theorem samelaw_any (f g n : Int) (w : World) (hT : TabW w) (hg : ErrT w) :
    Calls Tryd.prog 5 #[.int .i64 f, .int .i64 g, .int .i64 n] w fun e w' => e = .returned (.bool true) ∧ Below w.heap.size w w' := by
  by_cases h : n < 0 ∨ 20 < n ∨ f = 0 ∨ g = 0 ∨ isF f = false ∨ isF g = false
  · exact samelaw_out f g n h w hT hg
  · obtain ⟨m, rfl⟩ : ∃ m : Nat, n = m := ⟨n.toNat, by omega⟩
    have e1 : isF f = true := by
      cases e : isF f
      · exact absurd (by simp [e]) h
      · rfl
    have e2 : isF g = true := by
      cases e : isF g
      · exact absurd (by simp [e]) h
      · rfl
    exact samelaw_ok f g m (fun e => h (by simp [e])) e1 (fun e => h (by simp [e])) e2 (by omega) w hT hg
end Go.Proofs.YtmhekahfgmmeaaaDoor
