import Derived.Test.YtcgijabnknemiaaGraZd
set_option linter.unusedVariables false
set_option linter.unusedSimpArgs false
namespace Go.Proofs.Ytcgijabnknemiaa
open Go.RowKit
attribute [local go_sem ↓] Go.wp_at_zero Go.wp_at_succ
theorem flat_put : ∀ (es : List Ed) (k : Nat) (e : Ed), k < es.length → flat (es.set k e) = (((flat es).set (k * 3) (.int .i64 e.f)).set (k * 3 + 1) (.int .i64 e.t)).set (k * 3 + 2) (.int .u64 (e.w : Int))
  | [], k, x, h => by simp at h
  | e :: es, 0, x, h => by simp [flat, edCells]
  | e :: es, k + 1, x, h => by
    have ih := flat_put es k x (by simpa using h)
    have h1 : ∀ l, flat (e :: l) = edCells e ++ flat l := fun _ => rfl
    have h3 : (edCells e).length = 3 := rfl
    rw [List.set_cons_succ, h1, h1, ih, List.set_append_right _ _ (by omega), List.set_append_right _ _ (by omega), List.set_append_right _ _ (by omega)]
    rw [h3, show (k + 1) * 3 - 3 = k * 3 by omega, show (k + 1) * 3 + 1 - 3 = k * 3 + 1 by omega, show (k + 1) * 3 + 2 - 3 = k * 3 + 2 by omega]
/-- Clone of a graph with edges: where the new row lies. -/
theorem pclone_pos (n : Int) (es : List Ed) (a : Option Addr) (m c : Nat) (hm : es.length = m) (hl : m ≤ 1000000) (h0 : 0 < m) (w : World)
    (HC : 0 < m → ∃ b off, a = some ⟨b, off, none⟩ ∧ ∀ (j : Nat) e, es[j]? = some e → w.cell? ⟨b, off + j * 3, none⟩ = some (.int .i64 e.f) ∧ w.cell? ⟨b, off + j * 3 + 1, none⟩ = some (.int .i64 e.t) ∧ w.cell? ⟨b, off + j * 3 + 2, none⟩ = some (.int .u64 (e.w : Int))) :
    Calls Try.prog 15 #[.agg #[.int .i64 n, .slice a m c]] w fun e w' => ∃ gg cap, e = .returned (.agg #[.int .i64 n, .slice (some ⟨gg, 0, none⟩) m cap]) ∧ w'.ownsRow w.heap.size 46 3 (.slice (some ⟨gg, 0, none⟩) m cap) m (flat es) ∧ Below w.heap.size w w' := by
  refine (pclone_own n es a m c hm hl w HC).mono ?_
  rintro e w' ⟨a', c', rfl, hown, hB⟩
  obtain ⟨g, cap, heq, _, _⟩ := hown.form h0
  rw [heq] at hown ⊢
  exact ⟨g, cap, rfl, hown, hB⟩
theorem edges_on {w W : World} {a : Option Addr} {m : Nat} {es : List Ed} (hb : Below w.heap.size w W) (HC : 0 < m → ∃ b off, a = some ⟨b, off, none⟩ ∧ ∀ (j : Nat) e, es[j]? = some e → w.cell? ⟨b, off + j * 3, none⟩ = some (.int .i64 e.f) ∧ w.cell? ⟨b, off + j * 3 + 1, none⟩ = some (.int .i64 e.t) ∧ w.cell? ⟨b, off + j * 3 + 2, none⟩ = some (.int .u64 (e.w : Int))) :
    0 < m → ∃ b off, a = some ⟨b, off, none⟩ ∧ ∀ (j : Nat) e, es[j]? = some e → W.cell? ⟨b, off + j * 3, none⟩ = some (.int .i64 e.f) ∧ W.cell? ⟨b, off + j * 3 + 1, none⟩ = some (.int .i64 e.t) ∧ W.cell? ⟨b, off + j * 3 + 2, none⟩ = some (.int .u64 (e.w : Int)) := fun h => by
  obtain ⟨b, off, h1, h2⟩ := HC h
  exact ⟨b, off, h1, fun j e he => ⟨cell_on hb (h2 j e he).1, cell_on hb (h2 j e he).2.1, cell_on hb (h2 j e he).2.2⟩⟩
/-- A weight is stored in the new row: what the variable and the row hold then. -/
theorem put_w {w2 w3 : World} {gg m cap k : Nat} {es : List Ed} {n : Int} {x : Nat} {T : TypeId} (hm : es.length = m) (hk : k < m) (hown : w3.ownsRow w2.heap.size 46 3 (.slice (some ⟨gg, 0, none⟩) m cap) m (flat es)) (hB : Below w2.heap.size w2 w3) :
    ∃ y, (w3.alloc (.cells #[.int .i64 n, .slice (some ⟨gg, 0, none⟩) m cap] T)).cell? ⟨gg, k * 3 + 2, none⟩ = some y ∧ (w3.alloc (.cells #[.int .i64 n, .slice (some ⟨gg, 0, none⟩) m cap] T)).frozen? ⟨gg, k * 3 + 2, none⟩ = false ∧
      ((w3.alloc (.cells #[.int .i64 n, .slice (some ⟨gg, 0, none⟩) m cap] T)).setCell ⟨gg, k * 3 + 2, none⟩ (.int .u64 (x : Int))).cell? ⟨w3.heap.size, 0, none⟩ = some (.int .i64 n) ∧
      ((w3.alloc (.cells #[.int .i64 n, .slice (some ⟨gg, 0, none⟩) m cap] T)).setCell ⟨gg, k * 3 + 2, none⟩ (.int .u64 (x : Int))).cell? ⟨w3.heap.size, 1, none⟩ = some (.slice (some ⟨gg, 0, none⟩) m cap) ∧
      Hid (((w3.alloc (.cells #[.int .i64 n, .slice (some ⟨gg, 0, none⟩) m cap] T)).setCell ⟨gg, k * 3 + 2, none⟩ (.int .u64 (x : Int))).ownsRow w2.heap.size 46 3 (.slice (some ⟨gg, 0, none⟩) m cap) m (flat (es.modify k fun e => ⟨e.f, e.t, x⟩))) ∧
      Hid (Below w2.heap.size w2 ((w3.alloc (.cells #[.int .i64 n, .slice (some ⟨gg, 0, none⟩) m cap] T)).setCell ⟨gg, k * 3 + 2, none⟩ (.int .u64 (x : Int)))) := by
  have hown' := hown.alloc (.cells #[.int .i64 n, .slice (some ⟨gg, 0, none⟩) m cap] T)
  have hj : k * 3 + 2 < (flat es).length := by rw [flat_len]; omega
  have hlt := (hown.lt gg rfl).2
  refine ⟨(flat es)[k * 3 + 2]'hj, (hown'.cellAt (k * 3 + 2) (by omega)).trans (List.getElem?_eq_getElem hj), hown'.frozenAt _, ?_, ?_, Lib.hid ?_, Lib.hid ?_⟩
  · rw [World.cell?_setCell_other _ _ _ _ (fun e => by have := congrArg Addr.block e; simp at this; omega)]; simp
  · rw [World.cell?_setCell_other _ _ _ _ (fun e => by have := congrArg Addr.block e; simp at this; omega)]; simp
  · rw [flat_set es k x (by omega)]
    exact (hown'.stored _ _).1
  · exact (hB.alloc hB.size _).setCell (hown.lt gg rfl).1 _
set_option maxHeartbeats 2000000 in
theorem pwith_right (n : Int) (es : List Ed) (a : Option Addr) (m c : Nat) (hm : es.length = m) (hl : m ≤ 16384) (k x : Nat) (hk : k < m) (hx : weightB x = true) (w : World)
    (HC : 0 < m → ∃ b off, a = some ⟨b, off, none⟩ ∧ ∀ (j : Nat) e, es[j]? = some e → w.cell? ⟨b, off + j * 3, none⟩ = some (.int .i64 e.f) ∧ w.cell? ⟨b, off + j * 3 + 1, none⟩ = some (.int .i64 e.t) ∧ w.cell? ⟨b, off + j * 3 + 2, none⟩ = some (.int .u64 (e.w : Int)))
    (HV : Hid (∀ W, Below w.heap.size w W → Calls Try.prog 34 #[.agg #[.int .i64 n, .slice a m c]] W fun e w' => e = .returned (.bool true) ∧ Below W.heap.size W w')) :
    Calls Try.prog 23 #[.agg #[.int .i64 n, .slice a m c], .int .i64 (k : Int), .int .u64 (x : Int)] w fun e w' => ∃ v', e = .returned (.tuple #[.agg #[.int .i64 n, v'], .int .i64 0]) ∧ EdgesAt w' v' (es.modify k fun e => ⟨e.f, e.t, x⟩) ∧ Below w.heap.size w w' := by
  have HB0 := Lib.hid (((Below.refl w.heap.size w).alloc (Nat.le_refl _) (.cells #[.int .i64 n, .slice a m c] 24)).alloc (by simp) (.cells #[.int .i64 0, .slice none 0 0] 24))
  have HW := Lib.hid (fun W => pweight_any x W)
  rw [hx] at HW
  have HE := Lib.hid (fun W => pedge_any n a m c (k : Int) W)
  have he : nodeB m (k : Int) = true := by simp [nodeB]; omega
  rw [he] at HE
  have HCl := Lib.hid (fun W (hW : Below w.heap.size w W) => pclone_pos n es a m c hm (by omega) (by omega) W (edges_on hW HC))
  have hk0 : (0 : Int) ≤ (k : Int) := Int.natCast_nonneg _
  have hk1 : (k : Int) < (m : Int) := by omega
  clear HC he hx
  go_enter Try.func23, Try.ntmps23
  go_wp2_with (first
    | (go_at_call 34; refine (HV.out _ HB0.out).mono ?_; rintro e w1 ⟨rfl, hB⟩; have b0 := cell_on hB (p := ⟨w.heap.size, 0, none⟩) (v := .int .i64 n) (by simp); have b1 := cell_on hB (p := ⟨w.heap.size, 1, none⟩) (v := .slice a m c) (by simp); have c0 := cell_on hB (p := ⟨w.heap.size + 1, 0, none⟩) (v := .int .i64 0) (by simp); have c1 := cell_on hB (p := ⟨w.heap.size + 1, 1, none⟩) (v := .slice none 0 0) (by simp); have f0 := frozen_on hB (p := ⟨w.heap.size + 1, 0, none⟩) (v := .int .i64 0) (by simp) (by simp); have f1 := frozen_on hB (p := ⟨w.heap.size + 1, 1, none⟩) (v := .slice none 0 0) (by simp) (by simp); have HB1 := Lib.hid (on_trans HB0.out hB); clear hB HV)
    | (go_at_call 12; refine (HE.out _).mono ?_; rintro e w2 ⟨rfl, hB⟩; have b0' := cell_on hB b0; have b1' := cell_on hB b1; have c0' := cell_on hB c0; have c1' := cell_on hB c1; have f0' := frozen_on hB c0 f0; have f1' := frozen_on hB c1 f1; have HB2 := Lib.hid (on_trans HB1.out hB); clear hB HE b0 b1 c0 c1 f0 f1 HB1)
    | (go_at_call 29; refine (HW.out _).mono ?_; rintro e w' ⟨rfl, hw'⟩; obtain rfl := hw'.symm; clear HW)
    | (go_at_call 15; refine (HCl.out _ HB2.out).mono ?_; rintro e w3 ⟨gg, cap, rfl, hown, hB⟩; obtain ⟨y, s0, s1, u0, u1, HO, HB5⟩ := put_w (n := n) (x := x) (T := 24) hm hk hown hB; have hsz : w.heap.size + 1 < w2.heap.size := World.block_lt_of_cell? w2 _ c1'; have v0 := cell_lt HB5.out hsz c0'; have v1 := cell_lt HB5.out hsz c1'; have v2 := frozen_lt HB5.out (p := ⟨w.heap.size + 1, 0, none⟩) hsz f0'; have v3 := frozen_lt HB5.out (p := ⟨w.heap.size + 1, 1, none⟩) hsz f1'; clear hB HCl hown b0' b1' c0' c1' f0' f1'))
  have h2 := set2_cells v0 v1 (.int .i64 n) (.slice (some ⟨gg, 0, none⟩) m cap)
  refine bodyPost_ret_by (resGT rfl _ rfl h2.1 h2.2) rfl ⟨_, rfl, ?_, ((HB2.out.trans (HB5.out.mono HB2.out.size)).setCell (by simp) _).setCell (by simp) _⟩
  have hlen : (es.modify k fun e => (⟨e.f, e.t, x⟩ : Ed)).length = m := by rw [List.length_modify, hm]
  have h5 := owns_set (owns_set HO.out (.int .i64 n) (q := ⟨w.heap.size + 1, 0, none⟩) hsz) (.slice (some ⟨gg, 0, none⟩) m cap) (q := ⟨w.heap.size + 1, 1, none⟩) hsz
  have h6 := edges_own (es := es.modify k fun e => (⟨e.f, e.t, x⟩ : Ed)) (by rw [hlen]; exact h5)
  exact h6
end Go.Proofs.Ytcgijabnknemiaa
