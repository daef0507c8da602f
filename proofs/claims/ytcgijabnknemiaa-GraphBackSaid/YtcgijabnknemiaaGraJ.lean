import Derived.Test.YtcgijabnknemiaaGraI
import Derived.OneCell
set_option linter.unusedVariables false
set_option linter.unusedSimpArgs false
namespace Go.Proofs.Ytcgijabnknemiaa
open Go.RowKit
attribute [local go_sem ↓] Go.wp_at_zero Go.wp_at_succ
/-- The cells of edges lie so. -/
def FlatAt (w : World) (b off : Nat) (es : List Ed) : Prop := ∀ j u, (flat es)[j]? = some u → w.cell? ⟨b, off + j, none⟩ = some u
theorem FlatAt.on {W w1 : World} (hb : Below W.heap.size W w1) {b off : Nat} {es : List Ed} (h : FlatAt W b off es) : FlatAt w1 b off es := fun j u hu => cell_on hb (h j u hu)
theorem flat_of {w : World} {b off : Nat} {es : List Ed} (hc : ∀ (j : Nat) e, es[j]? = some e → w.cell? ⟨b, off + j * 3, none⟩ = some (.int .i64 e.f) ∧ w.cell? ⟨b, off + j * 3 + 1, none⟩ = some (.int .i64 e.t) ∧ w.cell? ⟨b, off + j * 3 + 2, none⟩ = some (.int .u64 (e.w : Int))) : FlatAt w b off es := fun j u hu => by
  have hj : j < (flat es).length := (List.getElem?_eq_some_iff.1 hu).1
  rw [flat_len] at hj
  have hq : j / 3 < es.length := by omega
  have he := List.getElem?_eq_getElem hq
  obtain ⟨h1, h2, h3⟩ := hc (j / 3) _ he
  have hm : j % 3 < 3 := by omega
  have hs := flat_at es (j / 3) _ (j % 3) he hm
  rw [show j / 3 * 3 + j % 3 = j by omega, hu] at hs
  have hr : j % 3 = 0 ∨ j % 3 = 1 ∨ j % 3 = 2 := by omega
  rcases hr with h | h | h
  · rw [h] at hs
    rw [show off + j = off + j / 3 * 3 by omega, h1]
    exact hs.symm
  · rw [h] at hs
    rw [show off + j = off + j / 3 * 3 + 1 by omega, h2]
    exact hs.symm
  · rw [h] at hs
    rw [show off + j = off + j / 3 * 3 + 2 by omega, h3]
    exact hs.symm
theorem flat_one (es : List Ed) : ∀ u ∈ flat es, u.oneCell' = true := by
  intro u hu
  unfold flat at hu
  obtain ⟨e, _, h⟩ := List.mem_flatMap.1 hu
  simp [edCells] at h
  rcases h with rfl | rfl | rfl <;> rfl
def WS (B : Nat) (n : Int) (E : Value) (b off : Nat) (es : List Ed) (w : World) : Prop := w.cell? ⟨B, 0, none⟩ = some (.int .i64 n) ∧ w.cell? ⟨B, 1, none⟩ = some E ∧ Hid (FlatAt w b off es)
theorem WS.on {B : Nat} {n : Int} {E : Value} {b off : Nat} {es : List Ed} {W w1 : World} (hb : Below W.heap.size W w1) (h : WS B n E b off es W) : WS B n E b off es w1 := ⟨cell_on hb h.1, cell_on hb h.2.1, Lib.hid (h.2.2.out.on hb)⟩
theorem far_cell {W w1 : World} {row : Option Nat} (hg : W.grownBy w1 row) {q : Addr} {u : Value} (hq : some q.block ≠ row) (h : W.cell? q = some u) : w1.cell? q = some u := by
  rw [hg.cell_far q (World.block_lt_of_cell? W _ h) hq]; exact h
theorem far_frozen {W w1 : World} {row : Option Nat} (hg : W.grownBy w1 row) {q : Addr} {u : Value} (hq : some q.block ≠ row) (h : W.cell? q = some u) (hf : W.frozen? q = false) : w1.frozen? q = false := by
  rw [hg.frozen_far q (World.block_lt_of_cell? W _ h) hq]; exact hf
theorem WS.far {B : Nat} {n : Int} {E : Value} {b off : Nat} {es : List Ed} {W w1 : World} {row : Option Nat} (hg : W.grownBy w1 row) (hB : some B ≠ row) (hb : some b ≠ row) (h : WS B n E b off es W) : WS B n E b off es w1 :=
  ⟨by rw [hg.cell_far ⟨B, 0, none⟩ (World.block_lt_of_cell? W _ h.1) hB]; exact h.1, by rw [hg.cell_far ⟨B, 1, none⟩ (World.block_lt_of_cell? W _ h.2.1) hB]; exact h.2.1,
   Lib.hid fun j u hu => by have h0 := h.2.2.out j u hu; rw [hg.cell_far ⟨b, off + j, none⟩ (World.block_lt_of_cell? W _ h0) hb]; exact h0⟩
theorem WS.set2 {B : Nat} {n : Int} {E : Value} {b off : Nat} {es : List Ed} {W : World} {P i j : Nat} {u v : Value} (hB : B ≠ P) (hb : b ≠ P) (h : WS B n E b off es W) : WS B n E b off es ((W.setCell ⟨P, i, none⟩ u).setCell ⟨P, j, none⟩ v) :=
  ⟨by rw [World.cell?_setCell_other _ _ _ _ (fun e => hB (congrArg Addr.block e).symm), World.cell?_setCell_other _ _ _ _ (fun e => hB (congrArg Addr.block e).symm)]; exact h.1,
   by rw [World.cell?_setCell_other _ _ _ _ (fun e => hB (congrArg Addr.block e).symm), World.cell?_setCell_other _ _ _ _ (fun e => hB (congrArg Addr.block e).symm)]; exact h.2.1,
   Lib.hid fun j u hu => by rw [World.cell?_setCell_other _ _ _ _ (fun e => hb (congrArg Addr.block e).symm), World.cell?_setCell_other _ _ _ _ (fun e => hb (congrArg Addr.block e).symm)]; exact h.2.2.out j u hu⟩
theorem WS.again {B : Nat} {n : Int} {E : Value} {b off : Nat} {es : List Ed} {W : World} {o o' : Obj} (hB : B < W.heap.size) (hb : b < W.heap.size) (h : WS B n E b off es (W.alloc o)) : WS B n E b off es (W.alloc o') :=
  ⟨by rw [World.cell?_alloc_lt _ _ _ hB]; have := h.1; rwa [World.cell?_alloc_lt _ _ _ hB] at this, by rw [World.cell?_alloc_lt _ _ _ hB]; have := h.2.1; rwa [World.cell?_alloc_lt _ _ _ hB] at this,
   Lib.hid fun j u hu => by have h0 := h.2.2.out j u hu; rw [World.cell?_alloc_lt _ _ _ hb] at h0 ⊢; exact h0⟩
theorem ne_of {P gg s : Nat} {v : Value} (hat : v.ownBlock = some gg ∨ gg = s) (hr : some P ≠ v.ownBlock) (hs : P ≠ s) : P ≠ gg := fun e => by
  rcases hat with h | h
  · exact hr (by rw [e]; exact h.symm)
  · exact hs (by rw [e]; exact h)
theorem flat_set : ∀ (es : List Ed) (k : Nat) (x : Nat), k < es.length → flat (es.modify k fun e => ⟨e.f, e.t, x⟩) = (flat es).set (k * 3 + 2) (.int .u64 (x : Int))
  | [], k, x, h => by simp at h
  | e :: es, 0, x, h => by simp [flat, edCells]
  | e :: es, k + 1, x, h => by
    have ih := flat_set es k x (by simpa using h)
    have h1 : ∀ l, flat (e :: l) = edCells e ++ flat l := fun _ => rfl
    rw [List.modify_succ_cons, h1, h1, ih, List.set_append_right _ _ (by simp [edCells]; omega)]
    congr 2
    simp [edCells]
    omega
/-- Behind the region that lays the new graph: its variable, and the row of its own. -/
def WFin (w1 W : World) (H P gg : Nat) (n : Int) (m cap : Nat) (es : List Ed) : Prop :=
  W.cell? ⟨P, 0, none⟩ = some (.int .i64 n) ∧ W.cell? ⟨P, 1, none⟩ = some (.slice (some ⟨gg, 0, none⟩) m cap) ∧ W.ownsRow H 46 3 (.slice (some ⟨gg, 0, none⟩) m cap) m (flat es) ∧ Below H w1 W ∧ P ≠ gg ∧ H ≤ P
theorem wfin1 {w1 w2 : World} {H gg : Nat} {n : Int} {m cap : Nat} {es : List Ed} {T : TypeId} (ho : w2.ownsRow H 46 3 (.slice (some ⟨gg, 0, none⟩) (0 + m) cap) (0 + m) ([] ++ flat es)) (hB : Below H w1 w2) (hs : H ≤ w2.heap.size) : WFin w1 (w2.alloc (.cells #[.int .i64 n, .slice (some ⟨gg, 0, none⟩) m cap] T)) H w2.heap.size gg n m cap es := by
  rw [Nat.zero_add, List.nil_append] at ho
  exact ⟨by simp, by simp, ho.alloc _, hB.alloc hs _, fun e => by have := (ho.lt gg rfl).2; omega, hs⟩
theorem wfin2 {w1 w2 : World} {H P gg : Nat} {n : Int} {m cap : Nat} {es : List Ed} {u v : Value} (ho : w2.ownsRow H 46 3 (.slice (some ⟨gg, 0, none⟩) (0 + m) cap) (0 + m) ([] ++ flat es)) (hB : Below H w1 w2) (hP : P ≠ gg) (hH : H ≤ P) (h0 : w2.cell? ⟨P, 0, none⟩ = some u) (h1 : w2.cell? ⟨P, 1, none⟩ = some v) :
    WFin w1 ((w2.setCell ⟨P, 0, none⟩ (.int .i64 n)).setCell ⟨P, 1, none⟩ (.slice (some ⟨gg, 0, none⟩) m cap)) H P gg n m cap es := by
  rw [Nat.zero_add, List.nil_append] at ho
  have h2 := set2_cells h0 h1 (.int .i64 n) (.slice (some ⟨gg, 0, none⟩) m cap)
  exact ⟨h2.1, h2.2, ownsRow_setCell_other (ownsRow_setCell_other ho (by simp [Value.ownBlock]; omega) _) (by simp [Value.ownBlock]; omega) _, (hB.setCell hH _).setCell hH _, hP, hH⟩
set_option maxHeartbeats 4000000 in
theorem rwith_right (n : Int) (es : List Ed) (b off m c : Nat) (hm : es.length = m) (hl : m ≤ 16384) (k x : Nat) (hk : k < m) (hx : weightB x = true) (w : World)
    (HC : Hid (FlatAt w b off es))
    (HR : Hid (∀ W, Below w.heap.size w W → Calls Try.prog 10 #[.agg #[.int .i64 n, .slice (some ⟨b, off, none⟩) m c]] W fun e w' => e = .returned (.int .i64 0) ∧ Below W.heap.size W w')) :
    Calls Try.prog 24 #[.agg #[.int .i64 n, .slice (some ⟨b, off, none⟩) m c], .int .i64 (k : Int), .int .u64 (x : Int)] w fun e w' => ∃ v, e = .returned (.tuple #[.agg #[.int .i64 n, v], .int .i64 0]) ∧ EdgesAt w' v (es.modify k fun e => ⟨e.f, e.t, x⟩) ∧ Below w.heap.size w w' := by
  have HB0 := Lib.hid (((Below.refl w.heap.size w).alloc (Nat.le_refl _) (.cells #[.int .i64 n, .slice (some ⟨b, off, none⟩) m c] 24)).alloc (by simp) (.cells #[.int .i64 0, .slice none 0 0] 24))
  have HW := Lib.hid (fun W => rweight_any x W)
  rw [hx] at HW
  have hk1 : (k : Int) < (m : Int) := by omega
  have hk0 : (0 : Int) ≤ (k : Int) := Int.natCast_nonneg _
  go_enter Try.func24, Try.ntmps24
  go_wp2_with (first
    | (go_at_call 10; refine (HR.out _ HB0.out).mono ?_; rintro e w1 ⟨rfl, hB⟩; have b0 := cell_on hB (p := ⟨w.heap.size, 0, none⟩) (v := .int .i64 n) (by simp); have b1 := cell_on hB (p := ⟨w.heap.size, 1, none⟩) (v := .slice (some ⟨b, off, none⟩) m c) (by simp); have c0 := cell_on hB (p := ⟨w.heap.size + 1, 0, none⟩) (v := .int .i64 0) (by simp); have c1 := cell_on hB (p := ⟨w.heap.size + 1, 1, none⟩) (v := .slice none 0 0) (by simp); have f0 := frozen_on hB (p := ⟨w.heap.size + 1, 0, none⟩) (v := .int .i64 0) (by simp) (by simp); have f1 := frozen_on hB (p := ⟨w.heap.size + 1, 1, none⟩) (v := .slice none 0 0) (by simp) (by simp); have HB1 := Lib.hid (on_trans HB0.out hB); clear hB HR)
    | (go_at_call 32; refine (HW.out _).mono ?_; rintro e w' ⟨rfl, hw'⟩; obtain rfl := hw'.symm; clear HW))
  have HF1 := Lib.hid (HC.out.on HB1.out)
  obtain ⟨i0, hi, hz0, hz1, hz2⟩ := info_parts infoE
  obtain ⟨H, hH⟩ : ∃ H, w1.heap.size = H := ⟨_, rfl⟩
  have hw1 : w.heap.size + 1 < H := by have := World.block_lt_of_cell? w1 _ c0; rw [hH] at this; exact this
  have hbs : b < w.heap.size := World.block_lt_of_cell? w ⟨b, off + 0, none⟩ (HC.out 0 _ (List.getElem?_eq_getElem (by rw [flat_len]; omega)))
  have h03 : 0 < 3 := by omega
  have hm0 : 0 < m := by omega
  have HFL : (flat es).length = m * 3 := by rw [flat_len, hm]
  have HML : 0 + m ≤ maxLen := by unfold maxLen; omega
  have HMB : (0 + m) * 24 ≤ 140737488355328 := by omega
  have M1 : (w1.alloc (.cells #[] 46)).drew.ownsRow H 46 3 (.slice (some ⟨H, 0, none⟩) 0 0) 0 [] := by
    have h := (World.ownsRow_made (e := 46) (size := 3) w1 #[] 0 (Nat.le_of_eq hH.symm) (by unfold maxLen; omega) rfl).drew
    rw [hH] at h
    exact h
  have M2 : ((w1.alloc (.cells #[] 46)).alloc (.cells #[.int .i64 0, .slice none 0 0] 24)).drew.ownsRow H 46 3 (.slice (some ⟨H, 0, none⟩) 0 0) 0 [] := by
    have h := ((World.ownsRow_made (e := 46) (size := 3) w1 #[] 0 (Nat.le_of_eq hH.symm) (by unfold maxLen; omega) rfl).alloc (.cells #[.int .i64 0, .slice none 0 0] 24)).drew
    rw [hH] at h
    exact h
  have M3 : ((w1.alloc (.cells #[.int .i64 0, .slice none 0 0] 24)).alloc (.cells #[] 46)).drew.ownsRow H 46 3 (.slice (some ⟨H + 1, 0, none⟩) 0 0) 0 [] := by
    have h := (World.ownsRow_made (base := H) (e := 46) (size := 3) (w1.alloc (.cells #[.int .i64 0, .slice none 0 0] 24)) #[] 0 (by simp; omega) (by unfold maxLen; omega) rfl).drew
    have e : (w1.alloc (.cells #[.int .i64 0, .slice none 0 0] 24)).heap.size = H + 1 := by simp [hH]
    rw [e] at h
    exact h
  have R5 : some (H + 1) ≠ Value.ownBlock (.slice (some ⟨H, 0, none⟩) 0 0) := by simp [Value.ownBlock]
  have R6 : some H ≠ Value.ownBlock (.slice (some ⟨H + 1, 0, none⟩) 0 0) := by simp [Value.ownBlock]
  have P1 : ((w1.alloc (.cells #[] 46)).alloc (.cells #[.int .i64 0, .slice none 0 0] 24)).drew.cell? ⟨H + 1, 0, none⟩ = some (.int .i64 0) := by simp [← hH]
  have P2 : ((w1.alloc (.cells #[] 46)).alloc (.cells #[.int .i64 0, .slice none 0 0] 24)).drew.cell? ⟨H + 1, 1, none⟩ = some (.slice none 0 0) := by simp [← hH]
  have P3 : ((w1.alloc (.cells #[] 46)).alloc (.cells #[.int .i64 0, .slice none 0 0] 24)).drew.frozen? ⟨H + 1, 0, none⟩ = false := by simp [← hH]
  have P4 : ((w1.alloc (.cells #[] 46)).alloc (.cells #[.int .i64 0, .slice none 0 0] 24)).drew.frozen? ⟨H + 1, 1, none⟩ = false := by simp [← hH]
  have P5 : ((w1.alloc (.cells #[.int .i64 0, .slice none 0 0] 24)).alloc (.cells #[] 46)).drew.cell? ⟨H, 0, none⟩ = some (.int .i64 0) := by simp [← hH]
  have P6 : ((w1.alloc (.cells #[.int .i64 0, .slice none 0 0] 24)).alloc (.cells #[] 46)).drew.cell? ⟨H, 1, none⟩ = some (.slice none 0 0) := by simp [← hH]
  have P7 : ((w1.alloc (.cells #[.int .i64 0, .slice none 0 0] 24)).alloc (.cells #[] 46)).drew.frozen? ⟨H, 0, none⟩ = false := by simp [← hH]
  have P8 : ((w1.alloc (.cells #[.int .i64 0, .slice none 0 0] 24)).alloc (.cells #[] 46)).drew.frozen? ⟨H, 1, none⟩ = false := by simp [← hH]
  have K1 : w.heap.size ≠ H := by omega
  have K2 : b ≠ H := by omega
  have K3 : w.heap.size ≠ H + 1 := by omega
  have K4 : b ≠ H + 1 := by omega
  have hwH : w.heap.size < H := by omega
  have hbH : b < H := by omega
  have N1 : H ≤ (w1.alloc (.cells #[] 46)).drew.heap.size := by simp; omega
  have N2 : H ≤ ((w1.alloc (.cells #[] 46)).alloc (.cells #[.int .i64 0, .slice none 0 0] 24)).drew.heap.size := by simp; omega
  have N3 : H ≤ ((w1.alloc (.cells #[.int .i64 0, .slice none 0 0] 24)).alloc (.cells #[] 46)).drew.heap.size := by simp; omega
  have BB1 : Below H w1 (w1.alloc (.cells #[] 46)).drew := ((Below.refl H w1).alloc (Nat.le_of_eq hH.symm) _).drew
  have BB2 : Below H w1 ((w1.alloc (.cells #[] 46)).alloc (.cells #[.int .i64 0, .slice none 0 0] 24)).drew := (((Below.refl H w1).alloc (Nat.le_of_eq hH.symm) _).alloc (by simp; omega) _).drew
  have BB3 : Below H w1 ((w1.alloc (.cells #[.int .i64 0, .slice none 0 0] 24)).alloc (.cells #[] 46)).drew := (((Below.refl H w1).alloc (Nat.le_of_eq hH.symm) _).alloc (by simp; omega) _).drew
  have T2 : H + 1 ≠ ((w1.alloc (.cells #[] 46)).alloc (.cells #[.int .i64 0, .slice none 0 0] 24)).drew.heap.size := by simp; omega
  have T3 : H ≠ ((w1.alloc (.cells #[.int .i64 0, .slice none 0 0] 24)).alloc (.cells #[] 46)).drew.heap.size := by simp; omega
  have R1 : some w.heap.size ≠ Value.ownBlock (.slice (some ⟨H, 0, none⟩) 0 0) := by simp [Value.ownBlock]; omega
  have R2 : some b ≠ Value.ownBlock (.slice (some ⟨H, 0, none⟩) 0 0) := by simp [Value.ownBlock]; omega
  have R3 : some w.heap.size ≠ Value.ownBlock (.slice (some ⟨H + 1, 0, none⟩) 0 0) := by simp [Value.ownBlock]; omega
  have R4 : some b ≠ Value.ownBlock (.slice (some ⟨H + 1, 0, none⟩) 0 0) := by simp [Value.ownBlock]; omega
  go_region_held3 (fun w' => w'.cell? ⟨w.heap.size, 0, none⟩ = some (.int .i64 n) ∧ w'.cell? ⟨w.heap.size, 1, none⟩ = some (.slice (some ⟨b, off, none⟩) m c) ∧ Hid (FlatAt w' b off es))
    (first
      | exact WS.on ((Below.refl _ _).drew) ⟨b0, b1, HF1⟩
      | exact WS.on ((Below.refl _ _).alloc (Nat.le_refl _) _) ‹_›
      | exact WS.far hgrow R1 R2 ‹_›
      | exact WS.far hgrow R3 R4 ‹_›
      | exact WS.again hs1 hs2 ‹_›
      | exact WS.set2 K1 K2 ‹_›
      | exact WS.set2 K3 K4 ‹_›)
    ((refine step_append_lies _ (by rfl) _ _ _ (by rfl) H 46 i0 _ 3 24 Try.underlying22 hi hz0 hz1 hz2 rfl h03 _ 0 [] (by rfl) (by first | exact M1 | exact M2 | exact M3) ⟨b, off, none⟩ m c (flat es) (by rfl) HFL (fun j u hu => by rw [Addr.add_lit]; exact (show WS _ n _ b off es _ from ‹_›).2.2.out j u hu) (flat_one es) hm0 HML HMB (by first | exact N1 | exact N2 | exact N3) _ rfl ?_; intro gg cap w2 hown1 hgrow hat hlt2; have hs0 := Nat.le_of_lt (Nat.lt_of_le_of_lt (hown1.lt gg rfl).1 (hown1.lt gg rfl).2); have hs1 := Nat.lt_of_lt_of_le hwH hs0; have hs2 := Nat.lt_of_lt_of_le hbH hs0; first | (have p0 := far_cell hgrow R5 P1; have p1 := far_cell hgrow R5 P2; have p2 := far_frozen hgrow R5 P1 P3; have p3 := far_frozen hgrow R5 P2 P4; have hne := ne_of hat R5 T2; have HWF := Lib.hid (wfin2 (n := n) hown1 (below_grow BB2 (Nat.le_refl _) N2 M2 hgrow) hne (Nat.le_succ H) p0 p1)) | (have p0 := far_cell hgrow R6 P5; have p1 := far_cell hgrow R6 P6; have p2 := far_frozen hgrow R6 P5 P7; have p3 := far_frozen hgrow R6 P6 P8; have hne := ne_of hat R6 T3; have HWF := Lib.hid (wfin2 (n := n) hown1 (below_grow BB3 (Nat.le_refl _) N3 M3 hgrow) hne (Nat.le_refl H) p0 p1)) | (have HWF := Lib.hid (wfin1 (n := n) (T := 24) hown1 (below_grow BB1 (Nat.le_refl _) N1 M1 hgrow) hs0))))

  · obtain ⟨W4, hW4⟩ : ∃ W4, w2.alloc (.cells #[.int .i64 n, .slice (some ⟨gg, 0, none⟩) m cap] 24) = W4 := ⟨_, rfl⟩
    rw [hW4] at HWF ⊢
    clear hW4
    obtain ⟨q0, q1, ho, hB4, hPg, hHP⟩ := HWF.out
    have hj : k * 3 + 2 < (flat es).length := by rw [flat_len]; omega
    have s0 : W4.cell? ⟨gg, k * 3 + 2, none⟩ = some _ := (ho.cellAt (k * 3 + 2) (by omega)).trans (List.getElem?_eq_getElem hj)
    have s1 := ho.frozenAt (k * 3 + 2)
    have u0 : (W4.setCell ⟨gg, k * 3 + 2, none⟩ (.int .u64 (x : Int))).cell? ⟨w2.heap.size, 0, none⟩ = _ := (World.cell?_setCell_other _ _ _ _ (fun e => hPg (congrArg Addr.block e).symm)).trans q0
    have u1 : (W4.setCell ⟨gg, k * 3 + 2, none⟩ (.int .u64 (x : Int))).cell? ⟨w2.heap.size, 1, none⟩ = _ := (World.cell?_setCell_other _ _ _ _ (fun e => hPg (congrArg Addr.block e).symm)).trans q1
    have B5 := hB4.setCell (show H ≤ gg from (ho.lt gg rfl).1) (.int .u64 (x : Int)) (p := ⟨gg, k * 3 + 2, none⟩)
    have v0 := cell_lt B5 (show w.heap.size + 1 < H from hw1) c0
    have v1 := cell_lt B5 (show w.heap.size + 1 < H from hw1) c1
    have v2 := frozen_lt B5 (p := ⟨w.heap.size + 1, 0, none⟩) (show w.heap.size + 1 < H from hw1) f0
    have v3 := frozen_lt B5 (p := ⟨w.heap.size + 1, 1, none⟩) (show w.heap.size + 1 < H from hw1) f1
    have HO5 := Lib.hid (ho.stored (k * 3 + 2) (.int .u64 (x : Int)))
    have B5h := Lib.hid (HB1.out.trans (B5.mono (by omega)))
    have hgH := (ho.lt gg rfl).1
    clear hB4 hPg hHP B5 HWF ho b0 b1 c0 c1 f0 f1 hgrow hat hown1
    clear M1 M2 M3 R1 R2 R3 R4 R5 R6 P1 P2 P3 P4 P5 P6 P7 P8 N1 N2 N3 BB1 BB2 BB3 T2 T3 K1 K2 K3 K4
    go_wp2
    have h2 := set2_cells v0 v1 (.int .i64 n) (.slice (some ⟨gg, 0, none⟩) m cap)
    refine bodyPost_ret_by (resGT rfl _ rfl h2.1 h2.2) rfl ⟨_, rfl, ?_, (B5h.out.setCell (by simp) _).setCell (by simp) _⟩
    have hlen : (es.modify k fun e => (⟨e.f, e.t, x⟩ : Ed)).length = m := by rw [List.length_modify, hm]
    have h5 := owns_set (owns_set HO5.out.1 (.int .i64 n) (q := ⟨w.heap.size + 1, 0, none⟩) (show w.heap.size + 1 < H from hw1)) (.slice (some ⟨gg, 0, none⟩) m cap) (q := ⟨w.heap.size + 1, 1, none⟩) (show w.heap.size + 1 < H from hw1)
    rw [← flat_set es k x (by omega), ← hlen] at h5
    rw [← hlen]
    exact edges_own h5
  · obtain ⟨W4, hW4⟩ : ∃ W4, (w2.setCell ⟨H + 1, 0, none⟩ (.int .i64 n)).setCell ⟨H + 1, 1, none⟩ (.slice (some ⟨gg, 0, none⟩) m cap) = W4 := ⟨_, rfl⟩
    rw [hW4] at HWF ⊢
    clear hW4
    obtain ⟨q0, q1, ho, hB4, hPg, hHP⟩ := HWF.out
    have hj : k * 3 + 2 < (flat es).length := by rw [flat_len]; omega
    have s0 : W4.cell? ⟨gg, k * 3 + 2, none⟩ = some _ := (ho.cellAt (k * 3 + 2) (by omega)).trans (List.getElem?_eq_getElem hj)
    have s1 := ho.frozenAt (k * 3 + 2)
    have u0 : (W4.setCell ⟨gg, k * 3 + 2, none⟩ (.int .u64 (x : Int))).cell? ⟨H + 1, 0, none⟩ = _ := (World.cell?_setCell_other _ _ _ _ (fun e => hPg (congrArg Addr.block e).symm)).trans q0
    have u1 : (W4.setCell ⟨gg, k * 3 + 2, none⟩ (.int .u64 (x : Int))).cell? ⟨H + 1, 1, none⟩ = _ := (World.cell?_setCell_other _ _ _ _ (fun e => hPg (congrArg Addr.block e).symm)).trans q1
    have B5 := hB4.setCell (show H ≤ gg from (ho.lt gg rfl).1) (.int .u64 (x : Int)) (p := ⟨gg, k * 3 + 2, none⟩)
    have v0 := cell_lt B5 (show w.heap.size + 1 < H from hw1) c0
    have v1 := cell_lt B5 (show w.heap.size + 1 < H from hw1) c1
    have v2 := frozen_lt B5 (p := ⟨w.heap.size + 1, 0, none⟩) (show w.heap.size + 1 < H from hw1) f0
    have v3 := frozen_lt B5 (p := ⟨w.heap.size + 1, 1, none⟩) (show w.heap.size + 1 < H from hw1) f1
    have HO5 := Lib.hid (ho.stored (k * 3 + 2) (.int .u64 (x : Int)))
    have B5h := Lib.hid (HB1.out.trans (B5.mono (by omega)))
    have hgH := (ho.lt gg rfl).1
    clear hB4 hPg hHP B5 HWF ho b0 b1 c0 c1 f0 f1 hgrow hat hown1
    clear M1 M2 M3 R1 R2 R3 R4 R5 R6 P1 P2 P3 P4 P5 P6 P7 P8 N1 N2 N3 BB1 BB2 BB3 T2 T3 K1 K2 K3 K4
    go_wp2
    have h2 := set2_cells v0 v1 (.int .i64 n) (.slice (some ⟨gg, 0, none⟩) m cap)
    refine bodyPost_ret_by (resGT rfl _ rfl h2.1 h2.2) rfl ⟨_, rfl, ?_, (B5h.out.setCell (by simp) _).setCell (by simp) _⟩
    have hlen : (es.modify k fun e => (⟨e.f, e.t, x⟩ : Ed)).length = m := by rw [List.length_modify, hm]
    have h5 := owns_set (owns_set HO5.out.1 (.int .i64 n) (q := ⟨w.heap.size + 1, 0, none⟩) (show w.heap.size + 1 < H from hw1)) (.slice (some ⟨gg, 0, none⟩) m cap) (q := ⟨w.heap.size + 1, 1, none⟩) (show w.heap.size + 1 < H from hw1)
    rw [← flat_set es k x (by omega), ← hlen] at h5
    rw [← hlen]
    exact edges_own h5
  · obtain ⟨W4, hW4⟩ : ∃ W4, (w2.setCell ⟨H, 0, none⟩ (.int .i64 n)).setCell ⟨H, 1, none⟩ (.slice (some ⟨gg, 0, none⟩) m cap) = W4 := ⟨_, rfl⟩
    rw [hW4] at HWF ⊢
    clear hW4
    obtain ⟨q0, q1, ho, hB4, hPg, hHP⟩ := HWF.out
    have hj : k * 3 + 2 < (flat es).length := by rw [flat_len]; omega
    have s0 : W4.cell? ⟨gg, k * 3 + 2, none⟩ = some _ := (ho.cellAt (k * 3 + 2) (by omega)).trans (List.getElem?_eq_getElem hj)
    have s1 := ho.frozenAt (k * 3 + 2)
    have u0 : (W4.setCell ⟨gg, k * 3 + 2, none⟩ (.int .u64 (x : Int))).cell? ⟨H, 0, none⟩ = _ := (World.cell?_setCell_other _ _ _ _ (fun e => hPg (congrArg Addr.block e).symm)).trans q0
    have u1 : (W4.setCell ⟨gg, k * 3 + 2, none⟩ (.int .u64 (x : Int))).cell? ⟨H, 1, none⟩ = _ := (World.cell?_setCell_other _ _ _ _ (fun e => hPg (congrArg Addr.block e).symm)).trans q1
    have B5 := hB4.setCell (show H ≤ gg from (ho.lt gg rfl).1) (.int .u64 (x : Int)) (p := ⟨gg, k * 3 + 2, none⟩)
    have v0 := cell_lt B5 (show w.heap.size + 1 < H from hw1) c0
    have v1 := cell_lt B5 (show w.heap.size + 1 < H from hw1) c1
    have v2 := frozen_lt B5 (p := ⟨w.heap.size + 1, 0, none⟩) (show w.heap.size + 1 < H from hw1) f0
    have v3 := frozen_lt B5 (p := ⟨w.heap.size + 1, 1, none⟩) (show w.heap.size + 1 < H from hw1) f1
    have HO5 := Lib.hid (ho.stored (k * 3 + 2) (.int .u64 (x : Int)))
    have B5h := Lib.hid (HB1.out.trans (B5.mono (by omega)))
    have hgH := (ho.lt gg rfl).1
    clear hB4 hPg hHP B5 HWF ho b0 b1 c0 c1 f0 f1 hgrow hat hown1
    clear M1 M2 M3 R1 R2 R3 R4 R5 R6 P1 P2 P3 P4 P5 P6 P7 P8 N1 N2 N3 BB1 BB2 BB3 T2 T3 K1 K2 K3 K4
    go_wp2
    have h2 := set2_cells v0 v1 (.int .i64 n) (.slice (some ⟨gg, 0, none⟩) m cap)
    refine bodyPost_ret_by (resGT rfl _ rfl h2.1 h2.2) rfl ⟨_, rfl, ?_, (B5h.out.setCell (by simp) _).setCell (by simp) _⟩
    have hlen : (es.modify k fun e => (⟨e.f, e.t, x⟩ : Ed)).length = m := by rw [List.length_modify, hm]
    have h5 := owns_set (owns_set HO5.out.1 (.int .i64 n) (q := ⟨w.heap.size + 1, 0, none⟩) (show w.heap.size + 1 < H from hw1)) (.slice (some ⟨gg, 0, none⟩) m cap) (q := ⟨w.heap.size + 1, 1, none⟩) (show w.heap.size + 1 < H from hw1)
    rw [← flat_set es k x (by omega), ← hlen] at h5
    rw [← hlen]
    exact edges_own h5
end Go.Proofs.Ytcgijabnknemiaa
