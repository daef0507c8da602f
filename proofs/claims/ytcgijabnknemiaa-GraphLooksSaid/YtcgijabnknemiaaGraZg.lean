import Derived.Test.YtcgijabnknemiaaGraZf
set_option linter.unusedVariables false
set_option linter.unusedSimpArgs false
namespace Go.Proofs.Ytcgijabnknemiaa
open Go.RowKit
attribute [local go_sem ↓] Go.wp_at_zero Go.wp_at_succ
set_option maxHeartbeats 2000000 in
theorem prev_right (n : Int) (es : List Ed) (a : Option Addr) (m c : Nat) (hm : es.length = m) (hl : m ≤ 16384) (w : World)
    (HC : 0 < m → ∃ b off, a = some ⟨b, off, none⟩ ∧ ∀ (j : Nat) e, es[j]? = some e → w.cell? ⟨b, off + j * 3, none⟩ = some (.int .i64 e.f) ∧ w.cell? ⟨b, off + j * 3 + 1, none⟩ = some (.int .i64 e.t) ∧ w.cell? ⟨b, off + j * 3 + 2, none⟩ = some (.int .u64 (e.w : Int)))
    (HV : Hid (∀ W, Below w.heap.size w W → Calls Try.prog 34 #[.agg #[.int .i64 n, .slice a m c]] W fun e w' => e = .returned (.bool true) ∧ Below W.heap.size W w')) :
    Calls Try.prog 18 #[.agg #[.int .i64 n, .slice a m c]] w fun e w' => ∃ v, e = .returned (.agg #[.int .i64 n, v]) ∧ EdgesAt w' v (es.map turnE) ∧ Below w.heap.size w w' := by
  have HB0 := Lib.hid (((Below.refl w.heap.size w).alloc (Nat.le_refl _) (.cells #[.int .i64 n, .slice a m c] 24)).alloc (by simp) (.cells #[.int .i64 0, .slice none 0 0] 24))
  have HCl := Lib.hid (fun W (hW : Below w.heap.size w W) => pclone_own n es a m c hm (by omega) W (edges_on hW HC))
  clear HC
  go_enter Try.func18, Try.ntmps18
  go_wp2_with (first
    | (go_at_call 34; refine (HV.out _ HB0.out).mono ?_; rintro e w1 ⟨rfl, hB⟩; have b0 := cell_on hB (p := ⟨w.heap.size, 0, none⟩) (v := .int .i64 n) (by simp); have b1 := cell_on hB (p := ⟨w.heap.size, 1, none⟩) (v := .slice a m c) (by simp); have c0 := cell_on hB (p := ⟨w.heap.size + 1, 0, none⟩) (v := .int .i64 0) (by simp); have c1 := cell_on hB (p := ⟨w.heap.size + 1, 1, none⟩) (v := .slice none 0 0) (by simp); have f0 := frozen_on hB (p := ⟨w.heap.size + 1, 0, none⟩) (v := .int .i64 0) (by simp) (by simp); have f1 := frozen_on hB (p := ⟨w.heap.size + 1, 1, none⟩) (v := .slice none 0 0) (by simp) (by simp); have HB1 := Lib.hid (on_trans HB0.out hB); clear hB HV)
    | (go_at_call 15; refine (HCl.out _ HB1.out).mono ?_; rintro e w2 ⟨a', c', rfl, hown, hB⟩; have HO := Lib.hid hown; have HB2 := Lib.hid hB; clear hB HCl hown))
  obtain ⟨R, hR⟩ : ∃ R, w2.heap.size = R := ⟨_, rfl⟩
  obtain ⟨H, hH⟩ : ∃ H, w1.heap.size = H := ⟨_, rfl⟩
  have hwH : w.heap.size + 1 < H := by have := World.block_lt_of_cell? w1 _ c0; rw [hH] at this; exact this
  have hHR : H ≤ R := by have := HB2.out.size; rw [hH, hR] at this; exact this
  rw [hH] at HO HB2
  have HOa : Hid ((w2.alloc (.cells #[.int .i64 n, .slice a' m c'] 24)).ownsRow H 46 3 (.slice a' m c') m (flat (turnL es 0))) := Lib.hid (by rw [turnL_zero]; exact HO.out.alloc _)
  have HBa : Hid (Below H w1 (w2.alloc (.cells #[.int .i64 n, .slice a' m c'] 24))) := Lib.hid (HB2.out.alloc (by omega) _)
  have HRa : Hid ((w2.alloc (.cells #[.int .i64 n, .slice a' m c'] 24)).cell? ⟨R, 0, none⟩ = some (.int .i64 n) ∧ (w2.alloc (.cells #[.int .i64 n, .slice a' m c'] 24)).cell? ⟨R, 1, none⟩ = some (.slice a' m c') ∧ R < (w2.alloc (.cells #[.int .i64 n, .slice a' m c'] 24)).heap.size) := Lib.hid (by subst hR; simp)
  have hgR : ∀ gg cap, (Value.slice a' m c') = .slice (some ⟨gg, 0, none⟩) m cap → R ≠ gg := fun gg cap e h => by
    have h1 := HO.out
    rw [e] at h1
    have := (h1.lt gg rfl).2
    omega
  rw [hR]
  clear HO HB2 b0 b1
  go_loopw [15] (fun i wr => ∃ k : Nat, k ≤ m ∧ i = .int .i64 k ∧ Hid (wr.ownsRow H 46 3 (.slice a' m c') m (flat (turnL es k))) ∧ Hid (Below H w1 wr) ∧ Hid (wr.cell? ⟨R, 0, none⟩ = some (.int .i64 n) ∧ wr.cell? ⟨R, 1, none⟩ = some (.slice a' m c') ∧ R < wr.heap.size)) (fun i _ => m - (RowKit.intOf i).toNat)
  case atStart => exact ⟨0, by omega, rfl, HOa, HBa, HRa⟩
  case round =>
    obtain ⟨k, hk, rfl, HO, HB, HR⟩ := hrel
    by_cases hkm : k < m
    · obtain ⟨gg, cap, heq, hgb, hgs⟩ := HO.out.form (by omega)
      have hne := hgR gg cap heq
      injection heq with heq1 _ heq2
      subst heq1 heq2
      have he0 : es[k]? = some (es[k]'(by omega)) := List.getElem?_eq_getElem (by omega)
      obtain ⟨⟨f, t, x⟩, he⟩ : ∃ e, es[k]'(by omega) = e := ⟨_, rfl⟩
      rw [he] at he0
      have hL := turnL_at he0
      have hlen := turnL_len es k
      have e1 : wr.cell? ⟨gg, k * 3, none⟩ = some (.int .i64 f) := (HO.out.cellAt (k * 3) (by omega)).trans ((flat_at _ k _ 0 hL (by omega)).trans rfl)
      have e2 : wr.cell? ⟨gg, k * 3 + 1, none⟩ = some (.int .i64 t) := (HO.out.cellAt (k * 3 + 1) (by omega)).trans ((flat_at _ k _ 1 hL (by omega)).trans rfl)
      have e3 : wr.cell? ⟨gg, k * 3 + 2, none⟩ = some (.int .u64 (x : Int)) := (HO.out.cellAt (k * 3 + 2) (by omega)).trans ((flat_at _ k _ 2 hL (by omega)).trans rfl)
      have z1 := HO.out.frozenAt (k * 3)
      have z2 := HO.out.frozenAt (k * 3 + 1)
      have z3 := HO.out.frozenAt (k * 3 + 2)
      have r1 := HR.out.2.1
      have hRs : R < wr.heap.size := HR.out.2.2
      have hi0 : (0 : Int) ≤ (k : Int) := Int.natCast_nonneg _
      have hi1 : (k : Int) < (m : Int) := by omega
      have hp := put_e (w1 := w1) (k := k) (e := turnE ⟨f, t, x⟩) (by rw [hlen]; exact hm) hkm HO.out HB.out
      rw [← turnL_succ he0] at hp
      simp only [turnE] at hp
      have hs : wr.heap.size ≤ (((wr.setCell ⟨gg, k * 3, none⟩ (.int .i64 t)).setCell ⟨gg, k * 3 + 1, none⟩ (.int .i64 f)).setCell ⟨gg, k * 3 + 2, none⟩ (.int .u64 (x : Int))).heap.size := by simp
      have hsz : H ≤ wr.heap.size := by have := HR.out.2.2; omega
      have HO2 := Lib.hid (hp.1.alloc (.cells #[.int .i64 f, .int .i64 t, .int .u64 (x : Int)] 46))
      have HB2 := Lib.hid (hp.2.alloc (Nat.le_trans hsz hs) (.cells #[.int .i64 f, .int .i64 t, .int .u64 (x : Int)] 46))
      have hba := (Below.refl _ (((wr.setCell ⟨gg, k * 3, none⟩ (.int .i64 t)).setCell ⟨gg, k * 3 + 1, none⟩ (.int .i64 f)).setCell ⟨gg, k * 3 + 2, none⟩ (.int .u64 (x : Int)))).alloc (Nat.le_refl _) (.cells #[.int .i64 f, .int .i64 t, .int .u64 (x : Int)] 46)
      have HR2 : Hid (_ ∧ _) := Lib.hid ⟨cell_on hba (put3_other HR.out.1 hne), cell_on hba (put3_other r1 hne)⟩
      clear hp hba he he0 hL hlen HO HR HOa HBa HRa hgR hR hH HB hs hsz
      go_wp2
      go_roundw
      case rel => exact ⟨k + 1, by omega, by go_num, HO2, HB2, Lib.hid ⟨HR2.out.1, HR2.out.2, by simp; omega⟩⟩
      case measure => simp [RowKit.intOf] <;> omega
    · obtain rfl : k = m := by omega
      have r0 := HR.out.1
      have r1 := HR.out.2.1
      have g0 := cell_lt HB.out (show w.heap.size + 1 < H by omega) c0
      have g1 := cell_lt HB.out (show w.heap.size + 1 < H by omega) c1
      have g2 := frozen_lt HB.out (p := ⟨w.heap.size + 1, 0, none⟩) (show w.heap.size + 1 < H by omega) f0
      have g3 := frozen_lt HB.out (p := ⟨w.heap.size + 1, 1, none⟩) (show w.heap.size + 1 < H by omega) f1
      have hlen : (es.map turnE).length = k := by rw [List.length_map, hm]
      have HE : Hid (wr.ownsRow H 46 3 (.slice a' k c') (es.map turnE).length (flat (es.map turnE))) := Lib.hid (by
        have h1 := HO.out
        rw [← hm, turnL_all, hm] at h1
        rw [hlen]
        exact h1)
      have HZ9 : Hid (Below w.heap.size w wr) := Lib.hid (HB1.out.trans (HB.out.mono (by omega)))
      clear c0 c1 f0 f1 HO HOa HBa HRa hgR HR hlen
      go_wp2
      have h2 := set2_cells g0 g1 (.int .i64 n) (.slice a' k c')
      refine bodyPost_ret_by (resG rfl _ rfl h2.1 h2.2) rfl ⟨_, rfl, ?_, (HZ9.out.setCell (by simp) _).setCell (by simp) _⟩
      exact edges_own (owns_set (owns_set HE.out _ (show w.heap.size + 1 < H by omega)) _ (show w.heap.size + 1 < H by omega))
theorem prev_any (n : Int) {v : Value} {es : List Ed} (w : World) (h : EdgesAt w v es) :
    Calls Try.prog 18 #[.agg #[.int .i64 n, v]] w fun e w' => ∃ v', e = .returned (.agg #[.int .i64 (revV n es).1, v']) ∧ EdgesAt w' v' (revV n es).2 ∧ Below w.heap.size w w' := by
  have HV := Lib.hid (fun W (hB : Below w.heap.size w W) => pvalid_any n W (h.on hB))
  obtain ⟨a, c, rfl, g⟩ := edgesAt_flat h
  unfold revV
  by_cases h1 : rightF n es = 0
  · rw [if_pos h1]
    rw [decide_eq_true h1] at HV
    exact prev_right n es a es.length c rfl (right_ends h1).2.2.1 w g HV
  · rw [if_neg h1]
    rw [decide_eq_false h1] at HV
    exact (prev_no n _ w HV).mono fun e w' ⟨e1, e2⟩ => ⟨_, e1, edges_nil _, e2⟩
end Go.Proofs.Ytcgijabnknemiaa
