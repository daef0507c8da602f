import Derived.Test.YtcgijabnknemiaaGraF
import Derived.Test.YtcgijabnknemiaaHeld
set_option linter.unusedVariables false
set_option linter.unusedSimpArgs false
namespace Go.Proofs.Ytcgijabnknemiaa
open Go.RowKit
attribute [local go_sem ↓] Go.wp_at_zero Go.wp_at_succ
theorem infoE : (Try.prog.info? 46).map (fun i => (i.zero, i.size, i.bytes)) = some (some (.agg #[.int .i64 0, .int .i64 0, .int .u64 0]), 3, 24) := by kernel_rfl
theorem aggG (w : World) : (isAgg 24).run Try.prog w = .ok true w := by kernel_rfl
theorem sizeG (w : World) : (sizeOf 24).run Try.prog w = .ok 2 w := by kernel_rfl
theorem loadG {w : World} {g : Nat} {x y : Value} (h0 : w.cell? ⟨g, 0, none⟩ = some x) (h1 : w.cell? ⟨g, 1, none⟩ = some y) : (loadVar 24 ⟨g, 0, none⟩).run Try.prog w = .ok (.agg #[x, y]) w := by
  have hl : (loadCells ⟨g, 0, none⟩ 2).run Try.prog w = .ok #[x, y] w := by
    have := run_loadCells_list (P := Try.prog) w ⟨g, 0, none⟩ [x, y] (fun j v hv => by
      rw [Addr.add_lit, Nat.zero_add]
      match j, hv with
      | 0, hv => rw [h0]; simpa using hv
      | 1, hv => rw [h1]; simpa using hv
      | j + 2, hv => simp at hv)
    simpa using this
  simp [loadVar, Sem.run_bind, aggG, sizeG, hl]
/-- A result of type Graph that lies in a variable. -/
theorem resG {fn : Func} {p : Tmp} (h : fn.results = #[.cell p 24]) (tmps : Array Value) {w : World} {g : Nat} {x y : Value} (hp : tmps.getD p undef = .pointer (some ⟨g, 0, none⟩)) (h0 : w.cell? ⟨g, 0, none⟩ = some x) (h1 : w.cell? ⟨g, 1, none⟩ = some y) :
    (results fn tmps).run Try.prog w = .ok (.agg #[x, y]) w := by
  have hp' : tmps[p]?.getD undef = .pointer (some ⟨g, 0, none⟩) := by simpa using hp
  simp [results, h, hp', asAddr, loadG h0 h1]
/-- A graph, and another result. -/
theorem resGT {fn : Func} {p u : Tmp} (h : fn.results = #[.cell p 24, .tmp u]) (tmps : Array Value) {w : World} {g : Nat} {x y : Value} (hp : tmps.getD p undef = .pointer (some ⟨g, 0, none⟩)) (h0 : w.cell? ⟨g, 0, none⟩ = some x) (h1 : w.cell? ⟨g, 1, none⟩ = some y) :
    (results fn tmps).run Try.prog w = .ok (.tuple #[.agg #[x, y], tmps.getD u undef]) w := by
  have hp' : tmps[p]?.getD undef = .pointer (some ⟨g, 0, none⟩) := by simpa using hp
  simp [results, h, hp', asAddr, loadG h0 h1]
theorem set2_cells {w : World} {g : Nat} {u v : Value} (h0 : w.cell? ⟨g, 0, none⟩ = some u) (h1 : w.cell? ⟨g, 1, none⟩ = some v) (x y : Value) :
    ((w.setCell ⟨g, 0, none⟩ x).setCell ⟨g, 1, none⟩ y).cell? ⟨g, 0, none⟩ = some x ∧ ((w.setCell ⟨g, 0, none⟩ x).setCell ⟨g, 1, none⟩ y).cell? ⟨g, 1, none⟩ = some y :=
  ⟨by rw [World.cell?_setCell_other _ _ _ _ (by simp)]; exact World.cell?_setCell_same _ _ _ h0, World.cell?_setCell_same _ _ _ (by rw [World.cell?_setCell_other _ _ _ _ (by simp)]; exact h1)⟩
def turnE (e : Ed) : Ed := ⟨e.t, e.f, e.w⟩
set_option maxHeartbeats 1000000 in
theorem rrev_wrong (n : Int) (E : Value) (F : Int) (hF : F ≠ 0) (w : World) (HR : Hid (∀ W, Below w.heap.size w W → Calls Try.prog 10 #[.agg #[.int .i64 n, E]] W fun e w' => e = .returned (.int .i64 F) ∧ Below W.heap.size W w')) :
    Calls Try.prog 19 #[.agg #[.int .i64 n, E]] w fun e w' => e = .returned (.agg #[.int .i64 0, .slice none 0 0]) ∧ Below w.heap.size w w' := by
  have hb0 := ((Below.refl w.heap.size w).alloc (Nat.le_refl _) (.cells #[.int .i64 n, E] 24)).alloc (by simp) (.cells #[.int .i64 0, .slice none 0 0] 24)
  have HB0 := Lib.hid hb0
  have hne : (F != 0) = true := by rw [bne_iff_ne]; exact hF
  clear hb0 hF
  go_enter Try.func19, Try.ntmps19
  go_wp2_with (go_at_call 10; refine (HR.out _ HB0.out).mono ?_; rintro e w1 ⟨rfl, hB⟩; have c0 := cell_on hB (p := ⟨w.heap.size + 1, 0, none⟩) (v := .int .i64 0) (by simp); have c1 := cell_on hB (p := ⟨w.heap.size + 1, 1, none⟩) (v := .slice none 0 0) (by simp); have f0 := frozen_on hB (p := ⟨w.heap.size + 1, 0, none⟩) (v := .int .i64 0) (by simp) (by simp); have f1 := frozen_on hB (p := ⟨w.heap.size + 1, 1, none⟩) (v := .slice none 0 0) (by simp) (by simp); have HB1 := Lib.hid (on_trans HB0.out hB); clear hB)
  have h2 := set2_cells c0 c1 (.int .i64 0) (.slice none 0 0)
  exact bodyPost_ret_by (resG rfl _ rfl h2.1 h2.2) rfl ⟨rfl, (HB1.out.setCell (by simp) _).setCell (by simp) _⟩
set_option maxHeartbeats 4000000 in
theorem rrev_right (n : Int) (es : List Ed) (a : Option Addr) (m c : Nat) (hm : es.length = m) (hl : m ≤ 16384) (w : World)
    (HC : Hid (0 < m → ∃ b off, a = some ⟨b, off, none⟩ ∧ ∀ j e, es[j]? = some e → w.cell? ⟨b, off + j * 3, none⟩ = some (.int .i64 e.f) ∧ w.cell? ⟨b, off + j * 3 + 1, none⟩ = some (.int .i64 e.t) ∧ w.cell? ⟨b, off + j * 3 + 2, none⟩ = some (.int .u64 (e.w : Int))))
    (HR : Hid (∀ W, Below w.heap.size w W → Calls Try.prog 10 #[.agg #[.int .i64 n, .slice a m c]] W fun e w' => e = .returned (.int .i64 0) ∧ Below W.heap.size W w')) :
    Calls Try.prog 19 #[.agg #[.int .i64 n, .slice a m c]] w fun e w' => ∃ v, e = .returned (.agg #[.int .i64 n, v]) ∧ EdgesAt w' v (es.map turnE) ∧ Below w.heap.size w w' := by
  have hb0 := ((Below.refl w.heap.size w).alloc (Nat.le_refl _) (.cells #[.int .i64 n, .slice a m c] 24)).alloc (by simp) (.cells #[.int .i64 0, .slice none 0 0] 24)
  have HB0 := Lib.hid hb0
  clear hb0
  go_enter Try.func19, Try.ntmps19
  go_wp2_with (go_at_call 10; refine (HR.out _ HB0.out).mono ?_; rintro e w1 ⟨rfl, hB⟩; have b0 := cell_on hB (p := ⟨w.heap.size, 0, none⟩) (v := .int .i64 n) (by simp); have b1 := cell_on hB (p := ⟨w.heap.size, 1, none⟩) (v := .slice a m c) (by simp); have c0 := cell_on hB (p := ⟨w.heap.size + 1, 0, none⟩) (v := .int .i64 0) (by simp); have c1 := cell_on hB (p := ⟨w.heap.size + 1, 1, none⟩) (v := .slice none 0 0) (by simp); have f0 := frozen_on hB (p := ⟨w.heap.size + 1, 0, none⟩) (v := .int .i64 0) (by simp) (by simp); have f1 := frozen_on hB (p := ⟨w.heap.size + 1, 1, none⟩) (v := .slice none 0 0) (by simp) (by simp); have HB1 := Lib.hid (on_trans HB0.out hB); clear hB)
  obtain ⟨B, hB⟩ : ∃ B, w1.heap.size = B := ⟨_, rfl⟩
  have hlt : w.heap.size + 1 < B := by have := HB1.out.size; have := World.block_lt_of_cell? w1 _ c0; simpa [hB] using this
  have HS0 : Hid ((w1.alloc (.cells #[.int .i64 n, .slice none 0 0] 24)).cell? ⟨B, 0, none⟩ = some (.int .i64 n) ∧ (w1.alloc (.cells #[.int .i64 n, .slice none 0 0] 24)).cell? ⟨B, 1, none⟩ = some (.slice none 0 0) ∧ (w1.alloc (.cells #[.int .i64 n, .slice none 0 0] 24)).frozen? ⟨B, 1, none⟩ = false) := Lib.hid (by subst hB; simp)
  have HL0 : Hid (Below B w1 (w1.alloc (.cells #[.int .i64 n, .slice none 0 0] 24))) := Lib.hid (by subst hB; exact (Below.refl _ _).alloc (Nat.le_refl _) _)
  have HZ0 : Hid (B + 1 ≤ (w1.alloc (.cells #[.int .i64 n, .slice none 0 0] 24)).heap.size) := Lib.hid (by subst hB; simp)
  rw [hB]
  go_loopw [4] (fun i wr => ∃ (k : Nat) (v : Value), k ≤ m ∧ i = .int .i64 k ∧ Hid (wr.cell? ⟨B, 0, none⟩ = some (.int .i64 n) ∧ wr.cell? ⟨B, 1, none⟩ = some v ∧ wr.frozen? ⟨B, 1, none⟩ = false) ∧ Hid (wr.ownsRow (B + 1) 46 3 v k (flat ((es.take k).map turnE))) ∧ Hid (Below B w1 wr) ∧ Hid (B + 1 ≤ wr.heap.size)) (fun i _ => m - (RowKit.intOf i).toNat)
  case atStart => exact ⟨0, _, by omega, rfl, HS0, Lib.hid (World.ownsRow_nil _ _ _ _), HL0, HZ0⟩
  case round =>
    obtain ⟨k, v, hk, rfl, HS, HO, HB, HZ⟩ := hrel
    have d0 := cell_lt HB.out (show w.heap.size < B by omega) b0
    have d1 := cell_lt HB.out (show w.heap.size < B by omega) b1
    have s0 := HS.out.1
    have s1 := HS.out.2.1
    have s2 := HS.out.2.2
    by_cases hkm : k < m
    · obtain ⟨b, off, rfl, hc⟩ := HC.out (by omega)
      have he0 : es[k]? = some (es[k]'(by omega)) := List.getElem?_eq_getElem (by omega)
      obtain ⟨⟨f, t, x⟩, he⟩ : ∃ e, es[k]'(by omega) = e := ⟨_, rfl⟩
      rw [he] at he0
      obtain ⟨e1, e2, e3⟩ := hc k _ he0
      simp only at e1 e2 e3
      have hbs : b < w.heap.size := World.block_lt_of_cell? w _ e1
      have e1 := cell_lt HB.out (show b < B by omega) (cell_on HB1.out e1)
      have e2 := cell_lt HB.out (show b < B by omega) (cell_on HB1.out e2)
      have e3 := cell_lt HB.out (show b < B by omega) (cell_on HB1.out e3)
      have hlist : flat ((es.take k).map turnE) ++ [.int .i64 t, .int .i64 f, .int .u64 (x : Int)] = flat ((es.take (k + 1)).map turnE) := by
        rw [List.take_succ_eq_append_getElem (by omega), List.map_append, he]
        have := flat_snoc ((es.take k).map turnE) (turnE ⟨f, t, x⟩)
        simpa [edCells, turnE] using this.symm
      have HLI := Lib.hid hlist
      have hi0 : (0 : Int) ≤ (k : Int) := Int.natCast_nonneg _
      have hi1 : (k : Int) < (m : Int) := by omega
      obtain ⟨i0, hi, hz0, hz1, hz2⟩ := info_parts infoE
      have hsz := HZ.out
      have hba := (Below.refl wr.heap.size wr).alloc (Nat.le_refl _) (.cells #[.int .i64 t, .int .i64 f, .int .u64 (x : Int)] 46)
      have Q1 := Lib.hid (cell_on hba.drew s1)
      have Q0 := Lib.hid (frozen_on hba.drew s1 s2)
      have Q2 := Lib.hid (cell_on hba.drew d1)
      have Q3 := Lib.hid (cell_on hba.drew e1)
      have Q4 := Lib.hid (cell_on hba.drew e2)
      have Q5 := Lib.hid (cell_on hba.drew e3)
      have Q6 := Lib.hid (cell_on hba.drew s0)
      have HBd := Lib.hid (HB.out.trans (hba.drew.mono (by omega)))
      have HOd := Lib.hid ((HO.out.alloc (.cells #[.int .i64 t, .int .i64 f, .int .u64 (x : Int)] 46)).drew)
      clear hba
      clear b0 b1 c0 c1 f0 f1 he he0 hlist hB HB0 HR HC hc HS0 HL0 HZ0
      go_wp2
      refine region_till (fun w' => w'.cell? ⟨B, 1, none⟩ = some v ∧ w'.cell? ⟨w.heap.size, 1, none⟩ = some (.slice (some ⟨b, off, none⟩) m c) ∧ w'.cell? ⟨b, off + k * 3, none⟩ = some (.int .i64 f) ∧ w'.cell? ⟨b, off + k * 3 + 1, none⟩ = some (.int .i64 t) ∧ w'.cell? ⟨b, off + k * 3 + 2, none⟩ = some (.int .u64 (x : Int))) 24 (by kernel_rfl) ⟨s1, d1, e1, e2, e3⟩ (fun hS0 => ?_)
      refine wpTill_take (i := 0) (v := .pointer (some ⟨B, 1, none⟩)) rfl (by kernel_rfl) (by kernel_rfl) (by kernel_rfl) (by kernel_rfl) (by kernel_rfl) (fun _ _ _ h => h) (Or.inl ⟨by kernel_rfl, fun w' hS => by obtain ⟨s0, s1, s2, s3, s4⟩ := hS; go_simp⟩) hS0 ?_
      simp only [Act.put, List.setIfInBounds_toArray, List.set_cons_zero, List.set_cons_succ]
      refine wpTill_take (i := 1) (v := v) rfl (by kernel_rfl) (by kernel_rfl) (by kernel_rfl) (by kernel_rfl) (by kernel_rfl) (fun _ _ _ h => h) (Or.inl ⟨by kernel_rfl, fun w' hS => by obtain ⟨s0, s1, s2, s3, s4⟩ := hS; go_simp⟩) hS0 ?_
      simp only [Act.put, List.setIfInBounds_toArray, List.set_cons_zero, List.set_cons_succ]
      refine wpTill_take (i := 2) (v := .pointer (some ⟨w.heap.size, 1, none⟩)) rfl (by kernel_rfl) (by kernel_rfl) (by kernel_rfl) (by kernel_rfl) (by kernel_rfl) (fun _ _ _ h => h) (Or.inl ⟨by kernel_rfl, fun w' hS => by obtain ⟨s0, s1, s2, s3, s4⟩ := hS; go_simp⟩) hS0 ?_
      simp only [Act.put, List.setIfInBounds_toArray, List.set_cons_zero, List.set_cons_succ]
      refine wpTill_take (i := 3) (v := .slice (some ⟨b, off, none⟩) m c) rfl (by kernel_rfl) (by kernel_rfl) (by kernel_rfl) (by kernel_rfl) (by kernel_rfl) (fun _ _ _ h => h) (Or.inl ⟨by kernel_rfl, fun w' hS => by obtain ⟨s0, s1, s2, s3, s4⟩ := hS; go_simp⟩) hS0 ?_
      simp only [Act.put, List.setIfInBounds_toArray, List.set_cons_zero, List.set_cons_succ]
      refine wpTill_take (i := 4) (v := .int .i64 (k : Int)) rfl (by kernel_rfl) (by kernel_rfl) (by kernel_rfl) (by kernel_rfl) (by kernel_rfl) (fun _ _ _ h => h) (Or.inl ⟨by kernel_rfl, fun w' hS => by obtain ⟨s0, s1, s2, s3, s4⟩ := hS; go_simp⟩) hS0 ?_
      simp only [Act.put, List.setIfInBounds_toArray, List.set_cons_zero, List.set_cons_succ]
      refine wpTill_take (i := 5) (v := .pointer (some ⟨b, off + k * 3, none⟩)) rfl (by kernel_rfl) (by kernel_rfl) (by kernel_rfl) (by kernel_rfl) (by kernel_rfl) (fun _ _ _ h => h) (Or.inl ⟨by kernel_rfl, fun w' hS => by obtain ⟨s0, s1, s2, s3, s4⟩ := hS; go_simp⟩) hS0 ?_
      simp only [Act.put, List.setIfInBounds_toArray, List.set_cons_zero, List.set_cons_succ]
      refine wpTill_take (i := 6) (v := .pointer (some ⟨b, off + k * 3 + 1, none⟩)) rfl (by kernel_rfl) (by kernel_rfl) (by kernel_rfl) (by kernel_rfl) (by kernel_rfl) (fun _ _ _ h => h) (Or.inl ⟨by kernel_rfl, fun w' hS => by obtain ⟨s0, s1, s2, s3, s4⟩ := hS; go_simp⟩) hS0 ?_
      simp only [Act.put, List.setIfInBounds_toArray, List.set_cons_zero, List.set_cons_succ]
      refine wpTill_take (i := 7) (v := .int .i64 t) rfl (by kernel_rfl) (by kernel_rfl) (by kernel_rfl) (by kernel_rfl) (by kernel_rfl) (fun _ _ _ h => h) (Or.inl ⟨by kernel_rfl, fun w' hS => by obtain ⟨s0, s1, s2, s3, s4⟩ := hS; go_simp⟩) hS0 ?_
      simp only [Act.put, List.setIfInBounds_toArray, List.set_cons_zero, List.set_cons_succ]
      refine wpTill_take (i := 8) (v := .pointer (some ⟨w.heap.size, 1, none⟩)) rfl (by kernel_rfl) (by kernel_rfl) (by kernel_rfl) (by kernel_rfl) (by kernel_rfl) (fun _ _ _ h => h) (Or.inl ⟨by kernel_rfl, fun w' hS => by obtain ⟨s0, s1, s2, s3, s4⟩ := hS; go_simp⟩) hS0 ?_
      simp only [Act.put, List.setIfInBounds_toArray, List.set_cons_zero, List.set_cons_succ]
      refine wpTill_take (i := 9) (v := .slice (some ⟨b, off, none⟩) m c) rfl (by kernel_rfl) (by kernel_rfl) (by kernel_rfl) (by kernel_rfl) (by kernel_rfl) (fun _ _ _ h => h) (Or.inl ⟨by kernel_rfl, fun w' hS => by obtain ⟨s0, s1, s2, s3, s4⟩ := hS; go_simp⟩) hS0 ?_
      simp only [Act.put, List.setIfInBounds_toArray, List.set_cons_zero, List.set_cons_succ]
      refine wpTill_take (i := 10) (v := .int .i64 (k : Int)) rfl (by kernel_rfl) (by kernel_rfl) (by kernel_rfl) (by kernel_rfl) (by kernel_rfl) (fun _ _ _ h => h) (Or.inl ⟨by kernel_rfl, fun w' hS => by obtain ⟨s0, s1, s2, s3, s4⟩ := hS; go_simp⟩) hS0 ?_
      simp only [Act.put, List.setIfInBounds_toArray, List.set_cons_zero, List.set_cons_succ]
      refine wpTill_take (i := 11) (v := .pointer (some ⟨b, off + k * 3, none⟩)) rfl (by kernel_rfl) (by kernel_rfl) (by kernel_rfl) (by kernel_rfl) (by kernel_rfl) (fun _ _ _ h => h) (Or.inl ⟨by kernel_rfl, fun w' hS => by obtain ⟨s0, s1, s2, s3, s4⟩ := hS; go_simp⟩) hS0 ?_
      simp only [Act.put, List.setIfInBounds_toArray, List.set_cons_zero, List.set_cons_succ]
      refine wpTill_take (i := 12) (v := .pointer (some ⟨b, off + k * 3, none⟩)) rfl (by kernel_rfl) (by kernel_rfl) (by kernel_rfl) (by kernel_rfl) (by kernel_rfl) (fun _ _ _ h => h) (Or.inl ⟨by kernel_rfl, fun w' hS => by obtain ⟨s0, s1, s2, s3, s4⟩ := hS; go_simp⟩) hS0 ?_
      simp only [Act.put, List.setIfInBounds_toArray, List.set_cons_zero, List.set_cons_succ]
      refine wpTill_take (i := 13) (v := .int .i64 f) rfl (by kernel_rfl) (by kernel_rfl) (by kernel_rfl) (by kernel_rfl) (by kernel_rfl) (fun _ _ _ h => h) (Or.inl ⟨by kernel_rfl, fun w' hS => by obtain ⟨s0, s1, s2, s3, s4⟩ := hS; go_simp⟩) hS0 ?_
      simp only [Act.put, List.setIfInBounds_toArray, List.set_cons_zero, List.set_cons_succ]
      refine wpTill_take (i := 14) (v := .pointer (some ⟨w.heap.size, 1, none⟩)) rfl (by kernel_rfl) (by kernel_rfl) (by kernel_rfl) (by kernel_rfl) (by kernel_rfl) (fun _ _ _ h => h) (Or.inl ⟨by kernel_rfl, fun w' hS => by obtain ⟨s0, s1, s2, s3, s4⟩ := hS; go_simp⟩) hS0 ?_
      simp only [Act.put, List.setIfInBounds_toArray, List.set_cons_zero, List.set_cons_succ]
      refine wpTill_take (i := 15) (v := .slice (some ⟨b, off, none⟩) m c) rfl (by kernel_rfl) (by kernel_rfl) (by kernel_rfl) (by kernel_rfl) (by kernel_rfl) (fun _ _ _ h => h) (Or.inl ⟨by kernel_rfl, fun w' hS => by obtain ⟨s0, s1, s2, s3, s4⟩ := hS; go_simp⟩) hS0 ?_
      simp only [Act.put, List.setIfInBounds_toArray, List.set_cons_zero, List.set_cons_succ]
      refine wpTill_take (i := 16) (v := .int .i64 (k : Int)) rfl (by kernel_rfl) (by kernel_rfl) (by kernel_rfl) (by kernel_rfl) (by kernel_rfl) (fun _ _ _ h => h) (Or.inl ⟨by kernel_rfl, fun w' hS => by obtain ⟨s0, s1, s2, s3, s4⟩ := hS; go_simp⟩) hS0 ?_
      simp only [Act.put, List.setIfInBounds_toArray, List.set_cons_zero, List.set_cons_succ]
      refine wpTill_take (i := 17) (v := .pointer (some ⟨b, off + k * 3, none⟩)) rfl (by kernel_rfl) (by kernel_rfl) (by kernel_rfl) (by kernel_rfl) (by kernel_rfl) (fun _ _ _ h => h) (Or.inl ⟨by kernel_rfl, fun w' hS => by obtain ⟨s0, s1, s2, s3, s4⟩ := hS; go_simp⟩) hS0 ?_
      simp only [Act.put, List.setIfInBounds_toArray, List.set_cons_zero, List.set_cons_succ]
      refine wpTill_take (i := 18) (v := .pointer (some ⟨b, off + k * 3 + 2, none⟩)) rfl (by kernel_rfl) (by kernel_rfl) (by kernel_rfl) (by kernel_rfl) (by kernel_rfl) (fun _ _ _ h => h) (Or.inl ⟨by kernel_rfl, fun w' hS => by obtain ⟨s0, s1, s2, s3, s4⟩ := hS; go_simp⟩) hS0 ?_
      simp only [Act.put, List.setIfInBounds_toArray, List.set_cons_zero, List.set_cons_succ]
      refine wpTill_take (i := 19) (v := .int .u64 (x : Int)) rfl (by kernel_rfl) (by kernel_rfl) (by kernel_rfl) (by kernel_rfl) (by kernel_rfl) (fun _ _ _ h => h) (Or.inl ⟨by kernel_rfl, fun w' hS => by obtain ⟨s0, s1, s2, s3, s4⟩ := hS; go_simp⟩) hS0 ?_
      simp only [Act.put, List.setIfInBounds_toArray, List.set_cons_zero, List.set_cons_succ]
      refine wpTill_take (i := 20) (v := .agg #[.int .i64 t, .int .i64 f, .int .u64 (x : Int)]) rfl (by kernel_rfl) (by kernel_rfl) (by kernel_rfl) (by kernel_rfl) (by kernel_rfl) (fun _ _ _ h => h) (Or.inl ⟨by kernel_rfl, fun w' hS => by obtain ⟨s0, s1, s2, s3, s4⟩ := hS; go_simp⟩) hS0 ?_
      simp only [Act.put, List.setIfInBounds_toArray, List.set_cons_zero, List.set_cons_succ]
      refine wpTill_one (i := 21) (by kernel_rfl) rfl (fun K hK => ?_)
      have HK := Lib.hid hK.out
      clear hK
      go_simp
      refine HK.out _ _ (fun _ => ⟨Q1.out, Q2.out, Q3.out, Q4.out, Q5.out⟩) (fun hS1 => ?_)
      clear HK
      refine wpTill_one (i := 22) (by kernel_rfl) rfl (fun K hK => ?_)
      have HK := Lib.hid hK.out
      clear hK
      refine step_append_lies _ (by rfl) _ _ _ (by rfl) (B + 1) 46 i0 _ 3 24 Try.underlying22 hi hz0 hz1 hz2 rfl (by omega) v k _ (by rfl) HOd.out ⟨wr.heap.size, 0, none⟩ 1 1 [.int .i64 t, .int .i64 f, .int .u64 (x : Int)] (by rfl) (by rfl) (World.news_of_block (cs := #[.int .i64 t, .int .i64 f, .int .u64 (x : Int)]) (t := 46) (fr := (0, 0)) (heap_alloc_new wr _)) (by simp [Value.oneCell']) (by omega) (by unfold maxLen; omega) (by omega) (by simp; omega) (wr.heap.size + 1) (by simp) ?_
      intro gg cap w2 hown1 hgrow hat hlt2
      have q1 := grow_cell HOd.out hgrow (show B < B + 1 by omega) Q1.out
      have q2 := grow_frozen HOd.out hgrow (show B < B + 1 by omega) Q1.out Q0.out
      refine HK.out _ _ (fun _ => ⟨q1, grow_cell HOd.out hgrow (show w.heap.size < B + 1 by omega) Q2.out, grow_cell HOd.out hgrow (show b < B + 1 by omega) Q3.out, grow_cell HOd.out hgrow (show b < B + 1 by omega) Q4.out, grow_cell HOd.out hgrow (show b < B + 1 by omega) Q5.out⟩) (fun hS2 => ?_)
      clear HK
      refine wpTill_take (i := 23) (v := .pointer (some ⟨B, 1, none⟩)) rfl (by kernel_rfl) (by kernel_rfl) (by kernel_rfl) (by kernel_rfl) (by kernel_rfl) (fun _ _ _ h => h) (Or.inl ⟨by kernel_rfl, fun w' hS => by obtain ⟨s0, s1, s2, s3, s4⟩ := hS; go_simp⟩) (hS2 (by decide)) ?_
      simp only [Act.put, List.setIfInBounds_toArray, List.set_cons_zero, List.set_cons_succ]
      refine wpTill_one (i := 24) (by kernel_rfl) rfl (fun K hK => ?_)
      have HK := Lib.hid hK.out
      clear hK
      go_simp
      refine HK.out _ _ (fun h => absurd rfl h) (fun _ => ?_)
      clear HK
      refine wpTill_done (by kernel_rfl) ?_ _
      have Z1 := Lib.hid (grow_cell HOd.out hgrow (show B < B + 1 by omega) Q6.out)
      have Z2 := Lib.hid (below_grow HBd.out (show B ≤ B + 1 by omega) (by simp; omega) HOd.out hgrow)
      have Z3 := Lib.hid hgrow.size
      have Z4 := Lib.hid q1
      have Z5 := Lib.hid q2
      clear q1 q2 hgrow
      rw [HLI.out] at hown1
      go_wp2
      go_roundw
      case rel =>
        exact ⟨k + 1, .slice (some ⟨gg, 0, none⟩) (k + 1) cap, by omega, by go_num,
          Lib.hid ⟨by rw [World.cell?_setCell_other _ _ _ _ (by simp)]; exact Z1.out, World.cell?_setCell_same _ _ _ Z4.out, by rw [World.frozen?_setCell]; exact Z5.out⟩,
          Lib.hid (owns_set hown1 _ (show B < B + 1 by omega)), Lib.hid (Z2.out.setCell (Nat.le_refl _) _), Lib.hid (by have := Z3.out; simp at this ⊢; omega)⟩
      case measure => simp [RowKit.intOf] <;> omega
    · obtain rfl : k = m := by omega
      have g0 := cell_lt HB.out (show w.heap.size + 1 < B by omega) c0
      have g1 := cell_lt HB.out (show w.heap.size + 1 < B by omega) c1
      have g2 := frozen_lt HB.out (p := ⟨w.heap.size + 1, 0, none⟩) (show w.heap.size + 1 < B by omega) f0
      have g3 := frozen_lt HB.out (p := ⟨w.heap.size + 1, 1, none⟩) (show w.heap.size + 1 < B by omega) f1
      have HE : Hid (wr.ownsRow (B + 1) 46 3 v (es.map turnE).length (flat (es.map turnE))) := Lib.hid (by
        have h1 := HO.out
        rw [List.take_of_length_le (by omega)] at h1
        have h2 : (es.map turnE).length = k := by rw [List.length_map, hm]
        rw [h2]
        exact h1)
      have HZ9 : Hid (Below w.heap.size w wr) := Lib.hid (HB1.out.trans (HB.out.mono (by omega)))
      obtain ⟨av, cv, rfl⟩ : ∃ av cv, v = .slice av k cv := by
        rcases HO.out.2 with ⟨h, h'⟩ | ⟨g, cap, cur, h, _⟩
        · exact ⟨none, 0, by rw [h, h']⟩
        · exact ⟨_, cap, h⟩
      clear b0 b1 c0 c1 f0 f1 HO
      go_wp2
      have h2 := set2_cells g0 g1 (.int .i64 n) (.slice av k cv)
      refine bodyPost_ret_by (resG rfl _ rfl h2.1 h2.2) rfl ⟨_, rfl, ?_, (HZ9.out.setCell (by simp) _).setCell (by simp) _⟩
      exact edges_own (owns_set (owns_set HE.out _ (show w.heap.size + 1 < B + 1 by omega)) _ (show w.heap.size + 1 < B + 1 by omega))
end Go.Proofs.Ytcgijabnknemiaa
