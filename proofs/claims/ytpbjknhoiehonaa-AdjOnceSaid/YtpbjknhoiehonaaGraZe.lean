import Derived.Test.YtpbjknhoiehonaaGraZd
set_option linter.unusedVariables false
set_option linter.unusedSimpArgs false
namespace Go.Proofs.Ytpbjknhoiehonaa
open Go.RowKit
attribute [local go_sem ↓] Go.wp_at_zero Go.wp_at_succ
theorem flat_put : ∀ (es : List Ed) (k : Nat) (e : Ed), k < es.length → flat (es.set k e) = (((flat es).set (k * 3) (.int .i64 e.f)).set (k * 3 + 1) (.int .i64 e.t)).set (k * 3 + 2) (.int .u64 (e.w : Int))
  | [], k, x, h => by simp at h
  | e :: es, 0, x, h => by simp [flat, edCells]
  | e :: es, k + 1, x, h => by
    have ih := flat_put es k x (by simpa using h)
    have h1 : ∀ l, flat (e :: l) = edCells e ++ flat l := fun _ => rfl
    have h3 : (edCells e).length = 3 := rfl
    rw [List.set_cons_succ, h1, h1, ih, List.set_append_right _ _ (by omega), List.set_append_right _ _ (by omega), List.set_append_right _ _ (by omega)]
    rw [h3, show (k + 1) * 3 - 3 = k * 3 by omega, show (k + 1) * 3 + 1 - 3 = k * 3 + 1 by omega, show (k + 1) * 3 + 2 - 3 = k * 3 + 2 by omega]
/-- Clone of a graph with edges: where the new row lies. -/
theorem pclone_pos (n : Int) (es : List Ed) (a : Option Addr) (m c : Nat) (hm : es.length = m) (hl : m ≤ 1000000) (h0 : 0 < m) (w : World)
    (HC : 0 < m → ∃ b off, a = some ⟨b, off, none⟩ ∧ ∀ (j : Nat) e, es[j]? = some e → w.cell? ⟨b, off + j * 3, none⟩ = some (.int .i64 e.f) ∧ w.cell? ⟨b, off + j * 3 + 1, none⟩ = some (.int .i64 e.t) ∧ w.cell? ⟨b, off + j * 3 + 2, none⟩ = some (.int .u64 (e.w : Int))) :
    Calls Try.prog 23 #[.agg #[.int .i64 n, .slice a m c]] w fun e w' => ∃ gg cap, e = .returned (.agg #[.int .i64 n, .slice (some ⟨gg, 0, none⟩) m cap]) ∧ w'.ownsRow w.heap.size 36 3 (.slice (some ⟨gg, 0, none⟩) m cap) m (flat es) ∧ Below w.heap.size w w' := by
  refine (pclone_own n es a m c hm hl w HC).mono ?_
  rintro e w' ⟨a', c', rfl, hown, hB⟩
  obtain ⟨g, cap, heq, _, _⟩ := hown.form h0
  rw [heq] at hown ⊢
  exact ⟨g, cap, rfl, hown, hB⟩
theorem edges_on {w W : World} {a : Option Addr} {m : Nat} {es : List Ed} (hb : Below w.heap.size w W) (HC : 0 < m → ∃ b off, a = some ⟨b, off, none⟩ ∧ ∀ (j : Nat) e, es[j]? = some e → w.cell? ⟨b, off + j * 3, none⟩ = some (.int .i64 e.f) ∧ w.cell? ⟨b, off + j * 3 + 1, none⟩ = some (.int .i64 e.t) ∧ w.cell? ⟨b, off + j * 3 + 2, none⟩ = some (.int .u64 (e.w : Int))) :
    0 < m → ∃ b off, a = some ⟨b, off, none⟩ ∧ ∀ (j : Nat) e, es[j]? = some e → W.cell? ⟨b, off + j * 3, none⟩ = some (.int .i64 e.f) ∧ W.cell? ⟨b, off + j * 3 + 1, none⟩ = some (.int .i64 e.t) ∧ W.cell? ⟨b, off + j * 3 + 2, none⟩ = some (.int .u64 (e.w : Int)) := fun h => by
  obtain ⟨b, off, h1, h2⟩ := HC h
  exact ⟨b, off, h1, fun j e he => ⟨cell_on hb (h2 j e he).1, cell_on hb (h2 j e he).2.1, cell_on hb (h2 j e he).2.2⟩⟩
/-- A weight is stored in the new row: what the variable and the row hold then. -/
theorem put_w {w2 w3 : World} {gg m cap k : Nat} {es : List Ed} {n : Int} {x : Nat} {T : TypeId} (hm : es.length = m) (hk : k < m) (hown : w3.ownsRow w2.heap.size 36 3 (.slice (some ⟨gg, 0, none⟩) m cap) m (flat es)) (hB : Below w2.heap.size w2 w3) :
    ∃ y, (w3.alloc (.cells #[.int .i64 n, .slice (some ⟨gg, 0, none⟩) m cap] T)).cell? ⟨gg, k * 3 + 2, none⟩ = some y ∧ (w3.alloc (.cells #[.int .i64 n, .slice (some ⟨gg, 0, none⟩) m cap] T)).frozen? ⟨gg, k * 3 + 2, none⟩ = false ∧
      ((w3.alloc (.cells #[.int .i64 n, .slice (some ⟨gg, 0, none⟩) m cap] T)).setCell ⟨gg, k * 3 + 2, none⟩ (.int .u64 (x : Int))).cell? ⟨w3.heap.size, 0, none⟩ = some (.int .i64 n) ∧
      ((w3.alloc (.cells #[.int .i64 n, .slice (some ⟨gg, 0, none⟩) m cap] T)).setCell ⟨gg, k * 3 + 2, none⟩ (.int .u64 (x : Int))).cell? ⟨w3.heap.size, 1, none⟩ = some (.slice (some ⟨gg, 0, none⟩) m cap) ∧
      Hid (((w3.alloc (.cells #[.int .i64 n, .slice (some ⟨gg, 0, none⟩) m cap] T)).setCell ⟨gg, k * 3 + 2, none⟩ (.int .u64 (x : Int))).ownsRow w2.heap.size 36 3 (.slice (some ⟨gg, 0, none⟩) m cap) m (flat (es.modify k fun e => ⟨e.f, e.t, x⟩))) ∧
      Hid (Below w2.heap.size w2 ((w3.alloc (.cells #[.int .i64 n, .slice (some ⟨gg, 0, none⟩) m cap] T)).setCell ⟨gg, k * 3 + 2, none⟩ (.int .u64 (x : Int)))) := by
  have hown' := hown.alloc (.cells #[.int .i64 n, .slice (some ⟨gg, 0, none⟩) m cap] T)
  have hj : k * 3 + 2 < (flat es).length := by rw [flat_len]; omega
  have hlt := (hown.lt gg rfl).2
  refine ⟨(flat es)[k * 3 + 2]'hj, (hown'.cellAt (k * 3 + 2) (by omega)).trans (List.getElem?_eq_getElem hj), hown'.frozenAt _, ?_, ?_, Lib.hid ?_, Lib.hid ?_⟩
  · rw [World.cell?_setCell_other _ _ _ _ (fun e => by have := congrArg Addr.block e; simp at this; omega)]; simp
  · rw [World.cell?_setCell_other _ _ _ _ (fun e => by have := congrArg Addr.block e; simp at this; omega)]; simp
  · rw [flat_set es k x (by omega)]
    exact (hown'.stored _ _).1
  · exact (hB.alloc hB.size _).setCell (hown.lt gg rfl).1 _
end Go.Proofs.Ytpbjknhoiehonaa
