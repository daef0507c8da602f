import Derived.Test.YtifljelphniipaaGraG
set_option linter.unusedVariables false
set_option linter.unusedSimpArgs false
namespace Go.Proofs.Ytifljelphniipaa
open Go.RowKit
attribute [local go_sem ↓] Go.wp_at_zero Go.wp_at_succ
def zeros (N : Nat) : Array Value := madeCells (Value.int .i64 0).cells N
theorem infoInt : (Try.prog.info? 3).map (fun i => (i.zero, i.size, i.bytes)) = some (some (.int .i64 0), 1, 8) := by kernel_rfl
theorem mkInts (N : Nat) (hN : N ≤ 1000000) (W : World) : (Instr.makeSlice 25 (.int .i64 (N : Int)) (.int .i64 (N : Int))).run Try.prog W = .ok (.slice (some ⟨W.heap.size, 0, none⟩) N N) (W.alloc (.cells (zeros N) 3)) := by
  obtain ⟨i0, hi, hz0, hz1, hz2⟩ := info_parts infoInt
  have h := run_makeSlice (P := Try.prog) W 25 3 i0 (.int .i64 0) Try.underlying25 hi hz0 .i64 .i64 (N : Int) (N : Int) (by omega) (by omega) (by rw [hz1]; omega) (by rw [hz2]; omega) (by omega)
  simpa [hz1, zeros] using h
theorem zeros_at {N j : Nat} (h : j < N) : (zeros N)[j]? = some (.int .i64 0) := by
  have h1 : j % 1 = 0 := Nat.mod_one j
  simp [zeros, madeCells, Value.cells, h, h1]
/-- A block of ints that may be written. -/
def IArr (w : World) (b : Nat) (xs : List Int) : Prop := ∀ j x, xs[j]? = some x → w.cell? ⟨b, j, none⟩ = some (.int .i64 x) ∧ w.frozen? ⟨b, j, none⟩ = false
theorem IArr.on {W w1 : World} (hb : Below W.heap.size W w1) {b : Nat} {xs : List Int} (h : IArr W b xs) : IArr w1 b xs := fun j x hx => ⟨cell_on hb (h j x hx).1, frozen_on hb (h j x hx).1 (h j x hx).2⟩
theorem IArr.lt {B : Nat} {W w1 : World} (hb : Below B W w1) {b : Nat} {xs : List Int} (hB : b < B) (h : IArr W b xs) : IArr w1 b xs := fun j x hx => ⟨cell_lt hb hB (h j x hx).1, frozen_lt hb hB (h j x hx).2⟩
theorem IArr.zeros {w : World} {b N : Nat} (h : ∀ j, j < N → w.cell? ⟨b, j, none⟩ = (zeros N)[j]? ∧ w.frozen? ⟨b, j, none⟩ = false) : IArr w b (List.replicate N 0) := fun j x hx => by
  have hj : j < N := by simpa using (List.getElem?_eq_some_iff.1 hx).1
  have h0 : x = 0 := by
    rw [List.getElem?_replicate, if_pos hj] at hx
    exact (Option.some.inj hx).symm
  obtain ⟨h1, h2⟩ := h j hj
  rw [zeros_at hj] at h1
  exact ⟨by rw [h1, h0], h2⟩
theorem IArr.set {w : World} {b : Nat} {xs : List Int} (h : IArr w b xs) {k : Nat} (y : Int) : IArr (w.setCell ⟨b, k, none⟩ (.int .i64 y)) b (xs.set k y) := fun j x hx => by
  rw [World.frozen?_setCell]
  by_cases e : k = j
  · subst e
    have hk : k < xs.length := by simpa using (List.getElem?_eq_some_iff.1 hx).1
    rw [List.getElem?_set_self hk] at hx
    obtain rfl := Option.some.inj hx
    have h0 := h k _ (List.getElem?_eq_getElem hk)
    exact ⟨World.cell?_setCell_same _ _ _ h0.1, h0.2⟩
  · rw [List.getElem?_set_ne e] at hx
    have h0 := h j x hx
    exact ⟨by rw [World.cell?_setCell_other _ _ _ _ (by simp [Ne.symm e])]; exact h0.1, h0.2⟩
theorem IArr.other {w : World} {b : Nat} {xs : List Int} (h : IArr w b xs) {q : Addr} (u : Value) (hq : q.block ≠ b) : IArr (w.setCell q u) b xs := fun j x hx => by
  rw [World.frozen?_setCell]
  have h0 := h j x hx
  exact ⟨by rw [World.cell?_setCell_other _ _ _ _ (fun e => hq (by rw [e]))]; exact h0.1, h0.2⟩
theorem ints_arr {w : World} {b c : Nat} {xs : List Int} (h : IArr w b xs) (hc : xs.length ≤ c) : IntsAt w (.slice (some ⟨b, 0, none⟩) xs.length c) xs :=
  ⟨_, c, rfl, hc, fun _ => ⟨b, 0, rfl, fun j x hx => by rw [Nat.zero_add]; exact (h j x hx).1⟩⟩
/-- Of each number how many edges have it. -/
def cnt (p : Ed → Int) (es : List Ed) (v : Int) : Int := (((es.filter fun e => decide (p e = v)).length : Nat) : Int)
def cntL (N : Nat) (p : Ed → Int) (es : List Ed) : List Int := (List.range N).map fun (v : Nat) => cnt p es (v : Int)
theorem cntL_len (N : Nat) (p : Ed → Int) (es : List Ed) : (cntL N p es).length = N := by simp [cntL]
theorem cntL_nil (N : Nat) (p : Ed → Int) : cntL N p [] = List.replicate N 0 := by
  apply List.ext_getElem?
  intro j
  simp only [cntL, List.getElem?_map, List.getElem?_replicate]
  by_cases h : j < N
  · rw [List.getElem?_range h, if_pos h]; rfl
  · rw [List.getElem?_eq_none (by simpa using h), if_neg h]; rfl
theorem cntL_at {N : Nat} {p : Ed → Int} {es : List Ed} {v : Nat} (h : v < N) : (cntL N p es)[v]? = some (cnt p es v) := by
  simp only [cntL, List.getElem?_map]
  rw [List.getElem?_range h]; rfl
theorem cnt_le (p : Ed → Int) (es : List Ed) (v : Int) : 0 ≤ cnt p es v ∧ cnt p es v ≤ es.length := by
  unfold cnt
  have := List.length_filter_le (fun e => decide (p e = v)) es
  omega
theorem cntL_snoc {N : Nat} {p : Ed → Int} {es : List Ed} {e : Ed} {v : Nat} (hv : p e = v) : cntL N p (es ++ [e]) = (cntL N p es).set v (cnt p es v + 1) := by
  apply List.ext_getElem?
  intro j
  by_cases h : j < N
  · rw [cntL_at h]
    by_cases x : v = j
    · subst x
      rw [List.getElem?_set_self (by rw [cntL_len]; exact h)]
      simp [cnt, List.filter_append, hv]
    · rw [List.getElem?_set_ne x, cntL_at h]
      have : ¬ ((v : Int) = (j : Int)) := by omega
      simp [cnt, List.filter_append, hv, this]
  · rw [List.getElem?_eq_none (by rw [cntL_len]; omega), List.getElem?_eq_none (by rw [List.length_set, cntL_len]; omega)]
end Go.Proofs.Ytifljelphniipaa
