import Derived.Test.YtpbjknhoiehonaaGraL
set_option linter.unusedVariables false
set_option linter.unusedSimpArgs false
namespace Go.Proofs.Ytpbjknhoiehonaa
open Go.RowKit
attribute [local go_sem ↓] Go.wp_at_zero Go.wp_at_succ
/-- The edges of a node, out or in: which of the first k are. -/
def outB (back : Bool) (v : Int) (e : Ed) : Bool := if back then e.t == v else e.f == v
def rowK (back : Bool) (v : Int) (es : List Ed) (k : Nat) : List Nat := (List.range k).filter fun j => match es[j]? with | some e => outB back v e | none => false
def rowL (back : Bool) (v : Int) (es : List Ed) : List Nat := rowK back v es es.length
theorem rowK_yes {back : Bool} {v : Int} {es : List Ed} {k : Nat} {e : Ed} (h : es[k]? = some e) (hb : outB back v e = true) : rowK back v es (k + 1) = rowK back v es k ++ [k] := by
  unfold rowK
  rw [List.range_succ, List.filter_append]
  simp [List.filter, h, hb]
theorem rowK_no {back : Bool} {v : Int} {es : List Ed} {k : Nat} {e : Ed} (h : es[k]? = some e) (hb : outB back v e = false) : rowK back v es (k + 1) = rowK back v es k := by
  unfold rowK
  rw [List.range_succ, List.filter_append]
  simp [List.filter, h, hb]
theorem rowK_le (back : Bool) (v : Int) (es : List Ed) (k : Nat) : (rowK back v es k).length ≤ k := by
  unfold rowK
  have := List.length_filter_le (fun j => match es[j]? with | some e => outB back v e | none => false) (List.range k)
  simpa using this
theorem rowL_at {back : Bool} {v : Int} {es : List Ed} {j : Nat} (h : j ∈ rowL back v es) : ∃ e, es[j]? = some e ∧ outB back v e = true := by
  unfold rowL rowK at h
  rw [List.mem_filter] at h
  cases he : es[j]? with
  | none => rw [he] at h; simp at h
  | some e => rw [he] at h; exact ⟨e, rfl, h.2⟩
set_option maxHeartbeats 1000000 in
theorem rrow_false (n v : Int) (es : List Ed) (a : Option Addr) (m c : Nat) (hm : es.length = m) (hl : m ≤ 16384) (w : World)
    (HC : Hid (0 < m → ∃ b off, a = some ⟨b, off, none⟩ ∧ ∀ j e, es[j]? = some e → w.cell? ⟨b, off + j * 3, none⟩ = some (.int .i64 e.f) ∧ w.cell? ⟨b, off + j * 3 + 1, none⟩ = some (.int .i64 e.t) ∧ w.cell? ⟨b, off + j * 3 + 2, none⟩ = some (.int .u64 (e.w : Int)))) :
    Calls Try.prog 12 #[.agg #[.int .i64 n, .slice a m c], .int .i64 v, .bool false] w fun e w' => ∃ u, e = .returned u ∧ w'.ownsRow (w.heap.size + 1) 3 1 u (rowL false v es).length (natV (rowL false v es)) ∧ Below w.heap.size w w' := by
  have HB0 := Lib.hid ((Below.refl w.heap.size w).alloc (Nat.le_refl _) (.cells #[.int .i64 n, .slice a m c] 24))
  go_enter Try.func12, Try.ntmps12
  go_wp2
  obtain ⟨A, hA⟩ : ∃ A, w.heap.size = A := ⟨_, rfl⟩
  have b1 : (w.alloc (.cells #[.int .i64 n, .slice a m c] 24)).cell? ⟨A, 1, none⟩ = some (.slice a m c) := by subst hA; simp
  have hs0 : (w.alloc (.cells #[.int .i64 n, .slice a m c] 24)).heap.size = A + 1 := by subst hA; simp
  obtain ⟨w1, hw1⟩ : ∃ w1, w.alloc (.cells #[.int .i64 n, .slice a m c] 24) = w1 := ⟨_, rfl⟩
  rw [hw1] at b1 hs0 HB0 ⊢
  rw [hA]
  go_loopw [7, 8] (fun u i wr => ∃ k : Nat, k ≤ m ∧ i = .int .i64 k ∧ Hid (wr.ownsRow (A + 1) 3 1 u (rowK false v es k).length (natV (rowK false v es k))) ∧ Hid (Below (A + 1) w1 wr) ∧ Hid (A + 1 ≤ wr.heap.size)) (fun _ i _ => m - (RowKit.intOf i).toNat)
  case atStart => exact ⟨0, by omega, rfl, Lib.hid (World.ownsRow_nil _ _ _ _), Lib.hid (Below.refl _ _), Lib.hid (by omega)⟩
  case round =>
    obtain ⟨k, hk, rfl, HO, HB, HS⟩ := hrel
    obtain ⟨au, cu, rfl⟩ := slice_form HO.out
    have d1 := cell_lt HB.out (show A < A + 1 by omega) b1
    by_cases hkm : k < m
    · obtain ⟨b, off, rfl, hc⟩ := HC.out (by omega)
      have he0 : es[k]? = some (es[k]'(by omega)) := List.getElem?_eq_getElem (by omega)
      obtain ⟨⟨f, t, x⟩, he⟩ : ∃ e, es[k]'(by omega) = e := ⟨_, rfl⟩
      rw [he] at he0
      obtain ⟨e1, e2, e3⟩ := hc k _ he0
      simp only at e1 e2 e3
      have hbs : b < A := by have := World.block_lt_of_cell? w _ e1; simp only at this; omega
      have e1 := cell_lt HB.out (show b < A + 1 by omega) (cell_lt HB0.out (show b < w.heap.size by omega) e1)
      have hk0 : (0 : Int) ≤ (k : Int) := Int.natCast_nonneg _
      have hk1 : (k : Int) < (m : Int) := by omega
      have hrl : (rowK false v es k).length ≤ k := rowK_le _ _ _ _
      by_cases hfv : f = v
      · have hq : (f == v) = true := by rw [hfv]; simp
        have HE := Lib.hid (rowK_yes (back := false) (v := v) he0 (by simp [outB, hfv]))
        clear he0 he hc HC e2 e3 hfv
        obtain ⟨i0, hi, hz0, hz1, hz2⟩ := info_parts infoInt
        have hsz : A + 1 ≤ wr.heap.size := HS.out
        go_wp2_with (first | (refine step_append_lies _ (by rfl) _ _ _ (by rfl) (A + 1) 3 i0 (.int .i64 0) 1 8 Try.underlying32 hi hz0 hz1 hz2 rfl (by omega) _ _ _ (by rfl) (HO.out.alloc _) ⟨wr.heap.size, 0, none⟩ 1 1 [.int .i64 (k : Int)] (by rfl) (by rfl) (by intro j u hj; match j, hj with | 0, hj => (simp at hj; subst hj; show World.cell? _ ⟨wr.heap.size, 0, none⟩ = _; rw [World.cell?_alloc_at _ _ _ _ (by simp)]; rfl)) (by intro u hu; rw [List.mem_singleton] at hu; subst hu; rfl) (by omega) (by unfold maxLen; omega) (by omega) (by simp; omega) _ rfl ?_; intro gg cap w2 hown1 hgrow hat hlt2) | (at_builtin; refine wpList_append_lies _ rfl _ _ 32 rfl (A + 1) 3 i0 (.int .i64 0) 1 8 Try.underlying32 hi hz0 hz1 hz2 rfl (by decide) _ _ _ rfl (HO.out.alloc _) ⟨wr.heap.size, 0, none⟩ 1 1 [.int .i64 (k : Int)] rfl rfl ?c1 ?c2 (by omega) ?c3 ?c4 ?c5 _ rfl ?_))
        case c1 => intro j u hj; match j, hj with | 0, hj => simp at hj; subst hj; show World.cell? _ ⟨wr.heap.size, 0, none⟩ = _; rw [World.cell?_alloc_at _ _ _ _ (by simp)]; rfl
        case c2 => intro u hu; rw [List.mem_singleton] at hu; subst hu; rfl
        case c3 => unfold maxLen; omega
        case c4 => omega
        case c5 => simp; omega
        intro gg cap w2 hown1 hgrow hat hlt2
        rw [← natV_snoc, ← HE.out] at hown1
        have hlen : (rowK false v es k).length + 1 = (rowK false v es (k + 1)).length := by rw [HE.out, List.length_append]; rfl
        rw [hlen] at hown1
        have HO3 := Lib.hid hown1
        have HB3 := Lib.hid (below_growE (HB.out.alloc (by omega) _) (Nat.le_refl _) (by simp; omega) (HO.out.alloc _) hgrow)
        have HS3 : Hid (A + 1 ≤ w2.heap.size) := Lib.hid (by have := hgrow.size; simp at this; omega)
        clear hown1 hgrow hat HO HB HS
        go_wp2
        go_roundw
        case rel => exact ⟨k + 1, by omega, by go_num, by rw [hlen]; exact HO3, HB3, HS3⟩
        case measure => simp [RowKit.intOf] <;> omega
      · have hq : (f == v) = false := by rw [beq_eq_false_iff_ne]; exact hfv
        have HE := Lib.hid (rowK_no (back := false) (v := v) he0 (by simp [outB, hfv]))
        clear he0 he hc HC e2 e3 hfv
        go_wp2
        go_roundw
        case rel => exact ⟨k + 1, by omega, by go_num, by rw [HE.out]; exact HO, HB, HS⟩
        case measure => simp [RowKit.intOf] <;> omega
    · obtain rfl : k = m := by omega
      have HZ := Lib.hid (HB0.out.trans (HB.out.mono (by omega)))
      have HO1 := HO.out
      clear HO HB HS HC
      go_wp2
      go_ret
      refine ⟨_, rfl, ?_, by subst hA; exact HZ.out⟩
      unfold rowL
      rw [hm]
      rw [hA]
      exact HO1
end Go.Proofs.Ytpbjknhoiehonaa
