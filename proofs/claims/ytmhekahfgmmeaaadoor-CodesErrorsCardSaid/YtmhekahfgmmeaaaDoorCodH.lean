import Derived.Test.YtmhekahfgmmeaaaDoorCodG
import Derived.BigQuiet
import Derived.Recover
import Derived.RegionTactic
import Derived.ChangeAlike
import Derived.Deep.QuietTactic
set_option linter.unusedVariables false
set_option linter.unusedSimpArgs false
namespace Go.Proofs.YtmhekahfgmmeaaaDoor
open Go.RowKit Go.Extern.Stop Go.Stop Go.Extern
/-- The program's table of words lies. -/
def TabW (w : World) : Prop := ∀ n, n < 15 → w.cell? ⟨0, n, none⟩ = some (.string (wordN n))
theorem TabW.on {W w1 : World} (hb : Below W.heap.size W w1) (h : TabW W) : TabW w1 := fun n hn => cell_on hb (h n hn)
theorem ErrT.on {W w1 : World} (hb : Below W.heap.size W w1) (h : ErrT W) : ErrT w1 := cell_on hb h
set_option maxHeartbeats 400000 in
theorem cis_any (f : Int) (w : World) :
    Calls Tryd.prog 13 #[.int .i64 f] w fun e w' => e = .returned (.bool (isF f)) ∧ w' = w := by
  unfold isF
  by_cases h1 : 0 ≤ f
  · by_cases h2 : f < 15
    · rw [decide_eq_true h1, decide_eq_true h2]
      go_enter Tryd.func13, Tryd.ntmps13
      go_wp2
      go_ret
      exact ⟨by simp <;> omega, rfl⟩
    · rw [decide_eq_true h1, decide_eq_false h2]
      go_enter Tryd.func13, Tryd.ntmps13
      go_wp2
      go_ret
      exact ⟨by simp <;> omega, rfl⟩
  · rw [decide_eq_false h1]
    go_enter Tryd.func13, Tryd.ntmps13
    go_wp2
    go_ret
    exact ⟨by simp, rfl⟩
set_option maxHeartbeats 400000 in
theorem cword_any (f : Int) (w : World) (hT : TabW w) :
    Calls Tryd.prog 10 #[.int .i64 f] w fun e w' => e = .returned (.string (wordB f)) ∧ w' = w := by
  have HI := Lib.hid (fun W => cis_any f W)
  cases hf : isF f
  · rw [hf] at HI
    rw [wordB_out hf]
    clear hf hT
    go_enter Tryd.func10, Tryd.ntmps10
    go_wp2_with (go_at_call 13; refine (HI.out _).mono ?_; rintro e w1 ⟨rfl, hw'⟩; obtain rfl := hw'.symm)
    go_ret
    exact ⟨rfl, rfl⟩
  · rw [hf] at HI
    obtain ⟨n, rfl, hn⟩ := isF_of hf
    rw [wordB_in hn]
    have hc := hT n hn
    clear hf hT
    go_enter Tryd.func10, Tryd.ntmps10
    go_wp2_with (go_at_call 13; refine (HI.out _).mono ?_; rintro e w1 ⟨rfl, hw'⟩; obtain rfl := hw'.symm)
    go_ret
    exact ⟨rfl, rfl⟩
set_option maxHeartbeats 400000 in
theorem new_nil (f : Int) (s : ByteArray) (h : f = 0 ∨ isF f = false) (w : World) :
    Calls Tryd.prog 14 #[.int .i64 f, .string s] w fun e w' => e = .returned .nilIface ∧ w' = w := by
  have HI := Lib.hid (fun W => cis_any f W)
  by_cases h0 : f = 0
  · subst h0
    go_enter Tryd.func14, Tryd.ntmps14
    go_wp2
    go_ret
    exact ⟨rfl, rfl⟩
  · rw [h.resolve_left h0] at HI
    have hb : (f == 0) = false := by rw [beq_eq_false_iff_ne]; exact h0
    clear h h0
    go_enter Tryd.func14, Tryd.ntmps14
    go_wp2_with (go_at_call 13; refine (HI.out _).mono ?_; rintro e w1 ⟨rfl, hw'⟩; obtain rfl := hw'.symm)
    go_ret
    exact ⟨rfl, rfl⟩
set_option maxHeartbeats 400000 in
theorem new_ok (f : Int) (s : ByteArray) (h0 : f ≠ 0) (h : isF f = true) (w : World) :
    Calls Tryd.prog 14 #[.int .i64 f, .string s] w fun e w' => ∃ p : Addr, e = .returned (.iface 36 (.pointer (some p))) ∧ ErrAt w' p f s ∧ w.heap.size ≤ p.block ∧ Below w.heap.size w w' := by
  have HI := Lib.hid (fun W => cis_any f W)
  rw [h] at HI
  have hb : (f == 0) = false := by rw [beq_eq_false_iff_ne]; exact h0
  clear h h0
  go_enter Tryd.func14, Tryd.ntmps14
  go_wp2_with (go_at_call 13; refine (HI.out _).mono ?_; rintro e w1 ⟨rfl, hw'⟩; obtain rfl := hw'.symm)
  go_ret
  exact ⟨_, rfl, ⟨_, rfl, heap_alloc_new w _⟩, Nat.le_refl _, (Below.refl _ _).alloc (Nat.le_refl _) _⟩
/-- Behind errors.As on a variable of the call's own: what stands. -/
theorem touched {w w' : World} {T : TypeId} {v : Value} (h : Touch (w.alloc (.cells #[.pointer none] T)) ⟨w.heap.size, 0, none⟩ v w') : w'.cell? ⟨w.heap.size, 0, none⟩ = some v ∧ w'.frozen? ⟨w.heap.size, 0, none⟩ = false ∧ Below w.heap.size w w' := by
  obtain ⟨h1, h2, h3, h4, h5⟩ := h
  exact ⟨h1, h2, ((Below.refl w.heap.size w).alloc (Nat.le_refl _) _).trans (h4 w.heap.size (Nat.le_refl _))⟩
set_option maxHeartbeats 1000000 in
theorem value_any (p : Addr) (f : Int) (s : ByteArray) (w : World) (hE : ErrAt w p f s) :
    Calls Tryd.prog 25 #[.pointer (some p)] w fun e w' => e = .returned (.agg #[.int .i64 f, .string s]) ∧ Below w.heap.size w w' := by
  obtain ⟨b1, rfl, e1, e2⟩ := hE.cells
  have hb := (Below.refl w.heap.size w).alloc (Nat.le_refl _) (.cells #[.int .i64 0, .string ⟨#[]⟩] 50)
  have e3 := cell_on hb e1
  have e4 := cell_on hb e2
  have HB := Lib.hid hb
  clear hE hb
  go_enter Tryd.func25, Tryd.ntmps25
  go_wp2
  exact bodyPost_ret_by (results_cell_row rfl _ _ _ _ _ _ _ rfl (heap_alloc_new _ _) Tryd.underlying50 rfl cSizeE) rfl ⟨rfl, (Below.refl w.heap.size w).alloc (Nat.le_refl _) _⟩
theorem catch_idle (p q : Addr) (w : World) :
    CallsD Tryd.prog 32 #[.pointer (some p), .pointer (some q)] .returning w fun e u' w' => e = .returned (.tuple #[]) ∧ u' = .returning ∧ w' = w := by
  refine callsD_of_wpS Tryd.func32 rfl fun c₀ cs hu => ?_
  apply wpS_seq
  apply wpS_region
  simp [wpOpsS, go_sem, recoverD, hu, Tryd.ntmps32, Exit.thenS]
  refine wpS_cond (t := false) (by simp [Act.eval, Array.replicate]) ?_
  simp only [Bool.false_eq_true, if_false]
  refine wpS_of_wp (wp_skip ?_)
  cases c₀
  simp_all [bodyPostS, results, Tryd.results32]
/-- Behind errors.As on the first of two variables of the call's own: what stands. -/
theorem touched2 {w w' : World} {T U : TypeId} {v : Value} (h : Touch ((w.alloc (.cells #[.pointer none] T)).alloc (.cells #[.bool false] U)) ⟨w.heap.size, 0, none⟩ v w') :
    w'.cell? ⟨w.heap.size, 0, none⟩ = some v ∧ w'.frozen? ⟨w.heap.size, 0, none⟩ = false ∧ w'.cell? ⟨w.heap.size + 1, 0, none⟩ = some (.bool false) ∧ w'.frozen? ⟨w.heap.size + 1, 0, none⟩ = false ∧ Below w.heap.size w w' := by
  obtain ⟨h1, h2, h3, h4, h5⟩ := h
  have h6 := h5 (w.heap.size + 1) (by simp) (by simp)
  refine ⟨h1, h2, ?_, ?_, (((Below.refl w.heap.size w).alloc (Nat.le_refl _) _).alloc (by simp) _).trans (h4 w.heap.size (Nat.le_refl _))⟩
  · rw [World.cell?_of_block h6]
    simp
  · rw [World.frozen?_of_block h6]
    simp
set_option maxHeartbeats 1000000 in
theorem first_hit (lo k : Nat) (u : TypeId) (x : Value) (p : Addr) (w : World) (hg : ErrT w) (hC : Chain w lo k (.iface u x) (.iface 36 (.pointer (some p)))) :
    Calls Tryd.prog 24 #[.iface u x] w fun e w' => e = .returned (.tuple #[.pointer (some p), .bool true]) ∧ Below w.heap.size w w' := by
  have hb := ((Below.refl w.heap.size w).alloc (Nat.le_refl _) (.cells #[.pointer none] 36)).alloc (by simp) (.cells #[.bool false] 4)
  have HAS := Lib.hid (As_hit lo k u x p ⟨w.heap.size, 0, none⟩ (.pointer none) ((w.alloc (.cells #[.pointer none] 36)).alloc (.cells #[.bool false] 4)) (cell_on hb hg) (hC.on hb) (by simp) (by simp))
  clear hb hg hC
  have hmf : ∀ (fn : Fn) (first cap : Array Value) (w : World), (Instr.makeFunc fn first cap).run Tryd.prog w = .ok (.func fn first cap) w := fun _ _ _ _ => rfl
  go_enter_defers Tryd.func24, Tryd.ntmps24
  go_wp2_with (go_at_call 18; refine HAS.out.mono ?_; rintro e w' ⟨rfl, hT⟩; obtain ⟨t1, t2, t3, t4, hB⟩ := touched2 hT; have HB := Lib.hid hB; clear hB hT HAS)
  have c1 : (w'.setCell ⟨w.heap.size + 1, 0, none⟩ (.bool true)).cell? ⟨w.heap.size, 0, none⟩ = some (.pointer (some p)) := by rw [World.cell?_setCell_other _ _ _ _ (by simp)]; exact t1
  have c2 : (w'.setCell ⟨w.heap.size + 1, 0, none⟩ (.bool true)).frozen? ⟨w.heap.size, 0, none⟩ = false := by rw [World.frozen?_setCell]; exact t2
  have c3 : (w'.setCell ⟨w.heap.size + 1, 0, none⟩ (.bool true)).cell? ⟨w.heap.size + 1, 0, none⟩ = some (.bool true) := World.cell?_setCell_same _ _ _ t3
  have c4 : (w'.setCell ⟨w.heap.size + 1, 0, none⟩ (.bool true)).frozen? ⟨w.heap.size + 1, 0, none⟩ = false := by rw [World.frozen?_setCell]; exact t4
  have HB2 : Hid (Below w.heap.size w (w'.setCell ⟨w.heap.size + 1, 0, none⟩ (.bool true))) := Lib.hid (HB.out.setCell (by simp) _)
  clear t1 t2 t3 t4 HB
  obtain ⟨W2, hW2⟩ : ∃ W2, w'.setCell ⟨w.heap.size + 1, 0, none⟩ (.bool true) = W2 := ⟨_, rfl⟩
  rw [hW2] at c1 c2 c3 c4 HB2 ⊢
  clear hW2
  have d1 : ((W2.setCell ⟨w.heap.size, 0, none⟩ (.pointer (some p))).setCell ⟨w.heap.size + 1, 0, none⟩ (.bool true)).drew.cell? ⟨w.heap.size, 0, none⟩ = some (.pointer (some p)) := by rw [World.cell?_drew, World.cell?_setCell_other _ _ _ _ (by simp)]; exact World.cell?_setCell_same _ _ _ c1
  have d3 : ((W2.setCell ⟨w.heap.size, 0, none⟩ (.pointer (some p))).setCell ⟨w.heap.size + 1, 0, none⟩ (.bool true)).drew.cell? ⟨w.heap.size + 1, 0, none⟩ = some (.bool true) := by rw [World.cell?_drew]; exact World.cell?_setCell_same _ _ _ (by rw [World.cell?_setCell_other _ _ _ _ (by simp)]; exact c3)
  have HB3 : Hid (Below w.heap.size w ((W2.setCell ⟨w.heap.size, 0, none⟩ (.pointer (some p))).setCell ⟨w.heap.size + 1, 0, none⟩ (.bool true)).drew) := Lib.hid ((HB2.out.setCell (Nat.le_refl _) _).setCell (by simp) _).drew
  have D1 := Lib.hid d1
  have D3 := Lib.hid d3
  clear d1 d3 HB2
  go_region
  go_wp2
  obtain ⟨W3, hW3⟩ : ∃ W3, ((W2.setCell ⟨w.heap.size, 0, none⟩ (.pointer (some p))).setCell ⟨w.heap.size + 1, 0, none⟩ (.bool true)).drew = W3 := ⟨_, rfl⟩
  rw [hW3] at D1 D3 HB3 ⊢
  have g1 := D1.out
  have g3 := D3.out
  refine leaves_cons (f := 32) (args := #[.pointer (some ⟨w.heap.size, 0, none⟩), .pointer (some ⟨w.heap.size + 1, 0, none⟩)]) (by simp) (by simp [go_sem]) ?_
  refine (catch_idle ⟨w.heap.size, 0, none⟩ ⟨w.heap.size + 1, 0, none⟩ _).mono ?_
  rintro e u' w'' ⟨rfl, rfl, rfl⟩
  simp [Leaves, settle, results, Tryd.results24, go_sem, g1, g3]
  exact HB3.out
set_option maxHeartbeats 1000000 in
theorem first_no (v : Value) (w : World) (HAS : Hid (Calls Tryd.prog 18 #[v, .iface 39 (.pointer (some ⟨w.heap.size, 0, none⟩))] ((w.alloc (.cells #[.pointer none] 36)).alloc (.cells #[.bool false] 4)) fun e w' => e = .returned (.bool false) ∧ Below ((w.alloc (.cells #[.pointer none] 36)).alloc (.cells #[.bool false] 4)).heap.size ((w.alloc (.cells #[.pointer none] 36)).alloc (.cells #[.bool false] 4)) w')) :
    Calls Tryd.prog 24 #[v] w fun e w' => e = .returned (.tuple #[.pointer none, .bool false]) ∧ Below w.heap.size w w' := by
  have hb := ((Below.refl w.heap.size w).alloc (Nat.le_refl _) (.cells #[.pointer none] 36)).alloc (by simp) (.cells #[.bool false] 4)
  have HBb := Lib.hid hb
  clear hb
  have hmf : ∀ (fn : Fn) (first cap : Array Value) (w : World), (Instr.makeFunc fn first cap).run Tryd.prog w = .ok (.func fn first cap) w := fun _ _ _ _ => rfl
  go_enter_defers Tryd.func24, Tryd.ntmps24
  go_wp2_with (go_at_call 18; refine HAS.out.mono ?_; rintro e w' ⟨rfl, hT⟩; have t1 := cell_on hT (p := ⟨w.heap.size, 0, none⟩) (v := .pointer none) (by simp); have t2 := frozen_on hT (p := ⟨w.heap.size, 0, none⟩) (v := .pointer none) (by simp) (by simp); have t3 := cell_on hT (p := ⟨w.heap.size + 1, 0, none⟩) (v := .bool false) (by simp); have t4 := frozen_on hT (p := ⟨w.heap.size + 1, 0, none⟩) (v := .bool false) (by simp) (by simp); have HB := Lib.hid (on_trans HBb.out hT); clear hT HAS HBb)
  have c1 : (w'.setCell ⟨w.heap.size + 1, 0, none⟩ (.bool false)).cell? ⟨w.heap.size, 0, none⟩ = some (.pointer none) := by rw [World.cell?_setCell_other _ _ _ _ (by simp)]; exact t1
  have c2 : (w'.setCell ⟨w.heap.size + 1, 0, none⟩ (.bool false)).frozen? ⟨w.heap.size, 0, none⟩ = false := by rw [World.frozen?_setCell]; exact t2
  have c3 : (w'.setCell ⟨w.heap.size + 1, 0, none⟩ (.bool false)).cell? ⟨w.heap.size + 1, 0, none⟩ = some (.bool false) := World.cell?_setCell_same _ _ _ t3
  have c4 : (w'.setCell ⟨w.heap.size + 1, 0, none⟩ (.bool false)).frozen? ⟨w.heap.size + 1, 0, none⟩ = false := by rw [World.frozen?_setCell]; exact t4
  have HB2 : Hid (Below w.heap.size w (w'.setCell ⟨w.heap.size + 1, 0, none⟩ (.bool false))) := Lib.hid (HB.out.setCell (by simp) _)
  clear t1 t2 t3 t4 HB
  obtain ⟨W2, hW2⟩ : ∃ W2, w'.setCell ⟨w.heap.size + 1, 0, none⟩ (.bool false) = W2 := ⟨_, rfl⟩
  rw [hW2] at c1 c2 c3 c4 HB2 ⊢
  clear hW2
  have d1 : ((W2.setCell ⟨w.heap.size, 0, none⟩ (.pointer none)).setCell ⟨w.heap.size + 1, 0, none⟩ (.bool false)).drew.cell? ⟨w.heap.size, 0, none⟩ = some (.pointer none) := by rw [World.cell?_drew, World.cell?_setCell_other _ _ _ _ (by simp)]; exact World.cell?_setCell_same _ _ _ c1
  have d3 : ((W2.setCell ⟨w.heap.size, 0, none⟩ (.pointer none)).setCell ⟨w.heap.size + 1, 0, none⟩ (.bool false)).drew.cell? ⟨w.heap.size + 1, 0, none⟩ = some (.bool false) := by rw [World.cell?_drew]; exact World.cell?_setCell_same _ _ _ (by rw [World.cell?_setCell_other _ _ _ _ (by simp)]; exact c3)
  have HB3 : Hid (Below w.heap.size w ((W2.setCell ⟨w.heap.size, 0, none⟩ (.pointer none)).setCell ⟨w.heap.size + 1, 0, none⟩ (.bool false)).drew) := Lib.hid ((HB2.out.setCell (Nat.le_refl _) _).setCell (by simp) _).drew
  have D1 := Lib.hid d1
  have D3 := Lib.hid d3
  clear d1 d3 HB2
  go_region
  go_wp2
  obtain ⟨W3, hW3⟩ : ∃ W3, ((W2.setCell ⟨w.heap.size, 0, none⟩ (.pointer none)).setCell ⟨w.heap.size + 1, 0, none⟩ (.bool false)).drew = W3 := ⟨_, rfl⟩
  rw [hW3] at D1 D3 HB3 ⊢
  have g1 := D1.out
  have g3 := D3.out
  refine leaves_cons (f := 32) (args := #[.pointer (some ⟨w.heap.size, 0, none⟩), .pointer (some ⟨w.heap.size + 1, 0, none⟩)]) (by simp) (by simp [go_sem]) ?_
  refine (catch_idle ⟨w.heap.size, 0, none⟩ ⟨w.heap.size + 1, 0, none⟩ _).mono ?_
  rintro e u' w'' ⟨rfl, rfl, rfl⟩
  simp [Leaves, settle, results, Tryd.results24, go_sem, g1, g3]
  exact HB3.out
theorem first_miss (lo k : Nat) (u : TypeId) (x y : Value) (w : World) (hg : ErrT w) (hC : Chain w lo k (.iface u x) (.iface 69 y)) :
    Calls Tryd.prog 24 #[.iface u x] w fun e w' => e = .returned (.tuple #[.pointer none, .bool false]) ∧ Below w.heap.size w w' := by
  have hb := ((Below.refl w.heap.size w).alloc (Nat.le_refl _) (.cells #[.pointer none] 36)).alloc (by simp) (.cells #[.bool false] 4)
  exact first_no (.iface u x) w (Lib.hid (As_miss lo k u x y ⟨w.heap.size, 0, none⟩ _ (cell_on hb hg) (hC.on hb)))
theorem As_nil (t : Value) (w : World) :
    Calls Tryd.prog 18 #[.nilIface, t] w fun e w' => e = .returned (.bool false) ∧ w' = w := by
  go_enter Tryd.func18, Tryd.ntmps18
  go_wp2
  go_ret
  exact ⟨rfl, rfl⟩
theorem first_nil (w : World) :
    Calls Tryd.prog 24 #[.nilIface] w fun e w' => e = .returned (.tuple #[.pointer none, .bool false]) ∧ Below w.heap.size w w' :=
  first_no .nilIface w (Lib.hid ((As_nil _ _).mono fun e w' ⟨h1, h2⟩ => ⟨h1, by subst h2; exact Below.refl _ _⟩))
end Go.Proofs.YtmhekahfgmmeaaaDoor
