import Derived.Test.YtifljelphniipaaPthZd
import Derived.Laws.EntriesVeiled
set_option linter.unusedVariables false
set_option linter.unusedSimpArgs false
namespace Go.Proofs.Ytifljelphniipaa
open Go.RowKit
attribute [local go_sem ↓] Go.wp_at_zero Go.wp_at_succ
/-- Lists of ints, and whether all of each are edges. -/
def LsAt (m : Nat) (vs : List Value) (qs : List Bool) (W : World) : Prop := ∀ (j : Nat) v q, vs[j]? = some v → qs[j]? = some q → ∃ (l : List Int) (al : Option Addr) (cl : Nat), v = .slice al l.length cl ∧ Ints l al l.length W ∧ q = okL m l ∧ l.length ≤ 4000000
theorem LsAt.on {m : Nat} {vs : List Value} {qs : List Bool} {w w1 : World} (h : LsAt m vs qs w) (hb : Below w.heap.size w w1) : LsAt m vs qs w1 := fun j v q hv hq => by
  obtain ⟨l, al, cl, h1, h2, h3, h4⟩ := h j v q hv hq
  exact ⟨l, al, cl, h1, h2.on hb, h3, h4⟩
set_option maxHeartbeats 2000000 in
theorem pusable_some (n : Int) (a : Option Addr) (m c : Nat) (es : List Ed) (hes : es.length = m) (vs : List Value) (qs : List Bool) (b k ck : Nat) (hv : vs.length = k) (hq : qs.length = k) (hm : k ≤ 1000) (w : World)
    (hE : EdgesAt w (.slice a m c) es) (HV : Hid (∀ (j : Nat) v, vs[j]? = some v → w.cell? ⟨b, j, none⟩ = some v)) (HL : Hid (LsAt m vs qs w)) :
    Calls Try.prog 33 #[.agg #[.int .i64 n, .slice a m c], .slice (some ⟨b, 0, none⟩) k ck] w fun e w' => e = .returned (.bool (decide (rightF n es = 0) && qs.all id)) ∧ Below w.heap.size w w' := by
  have hb1 := (Below.refl w.heap.size w).alloc (Nat.le_refl _) (.cells #[.int .i64 n, .slice a m c] 24)
  have hb2 := hb1.alloc hb1.size (.cells #[.func (.func 42) #[] #[.pointer (some ⟨w.heap.size, 0, none⟩)]] 67)
  have HB := Lib.hid hb2
  have hd : Below ((w.alloc (.cells #[.int .i64 n, .slice a m c] 24)).alloc (.cells #[.func (.func 42) #[] #[.pointer (some ⟨w.heap.size, 0, none⟩)]] 67)).heap.size _ _ := Below.refl _ ((w.alloc (.cells #[.int .i64 n, .slice a m c] 24)).alloc (.cells #[.func (.func 42) #[] #[.pointer (some ⟨w.heap.size, 0, none⟩)]] 67))
  have c0 : ((w.alloc (.cells #[.int .i64 n, .slice a m c] 24)).alloc (.cells #[.func (.func 42) #[] #[.pointer (some ⟨w.heap.size, 0, none⟩)]] 67)).cell? ⟨w.heap.size, 0, none⟩ = some (.int .i64 n) := by simp
  have c1 : ((w.alloc (.cells #[.int .i64 n, .slice a m c] 24)).alloc (.cells #[.func (.func 42) #[] #[.pointer (some ⟨w.heap.size, 0, none⟩)]] 67)).cell? ⟨w.heap.size, 1, none⟩ = some (.slice a m c) := by simp
  have c2 : ((w.alloc (.cells #[.int .i64 n, .slice a m c] 24)).alloc (.cells #[.func (.func 42) #[] #[.pointer (some ⟨w.heap.size, 0, none⟩)]] 67)).cell? ⟨w.heap.size + 1, 0, none⟩ = some (.func (.func 42) #[] #[.pointer (some ⟨w.heap.size, 0, none⟩)]) := by simp
  have HR := Lib.hid (pright_any n _ (hE.on hb2))
  have HC := Lib.hid (fun W (hW : Below ((w.alloc (.cells #[.int .i64 n, .slice a m c] 24)).alloc (.cells #[.func (.func 42) #[] #[.pointer (some ⟨w.heap.size, 0, none⟩)]] 67)).heap.size ((w.alloc (.cells #[.int .i64 n, .slice a m c] 24)).alloc (.cells #[.func (.func 42) #[] #[.pointer (some ⟨w.heap.size, 0, none⟩)]] 67)) W) =>
    pconL_any vs qs (w.heap.size + 1) b k ck hv hq hm W (Lib.hid fun j v hj => cell_on hW (cell_on hb2 (HV.out j v hj))) (Lib.hid fun W2 hW2 j v q hj hjq => by
      obtain ⟨l, al, cl, rfl, g2, rfl, g4⟩ := ((HL.out.on hb2).on hW).on hW2 j v q hj hjq
      exact pwrongL _ w.heap.size (w.heap.size + 1) _ W2 (cell_on hW2 (cell_on hW c2)) (Lib.hid (pconI_any n a m c w.heap.size l al l.length cl rfl g4 W2 (Lib.hid g2) (cell_on hW2 (cell_on hW c0)) (cell_on hW2 (cell_on hW c1))))))
  clear hb1 hb2 HV HL hE c2 hd
  generalize rightF n es = F at HR ⊢
  generalize qs.all id = q at HC ⊢
  by_cases hF : F = 0
  · subst hF
    rw [decide_eq_true rfl, Bool.true_and]
    go_enter Try.func33, Try.ntmps33
    go_wp2_with (first
      | (go_at_call 46; refine HR.out.mono ?_; rintro e w1 ⟨rfl, hB⟩; have HB1 := Lib.hid hB; clear hB HR)
      | (go_at_call 47; refine (HC.out _ HB1.out).mono ?_; rintro e w2 ⟨rfl, hB⟩; have HB2 := Lib.hid (HB.out.trans ((on_trans HB1.out hB).mono HB.out.size)); clear hB HC))
    go_ret
    exact ⟨by simp, HB2.out⟩
  · have hq : (F == 0) = false := by rw [beq_eq_false_iff_ne]; exact hF
    rw [decide_eq_false hF, Bool.false_and]
    clear hF
    go_enter Try.func33, Try.ntmps33
    go_wp2_with (go_at_call 46; refine HR.out.mono ?_; rintro e w1 ⟨rfl, hB⟩; have HB1 := Lib.hid (HB.out.trans (hB.mono HB.out.size)); clear hB HR HC)
    go_ret
    exact ⟨rfl, HB1.out⟩
/-- usable of one list, as its callers lay it. -/
theorem pusable_one (n : Int) (a : Option Addr) (m c : Nat) (es : List Ed) (hes : es.length = m) (l : List Int) (al : Option Addr) (ml cl : Nat) (hl : l.length = ml) (hm : ml ≤ 4000000) (w : World) (hE : EdgesAt w (.slice a m c) es) (HL : Hid (Ints l al ml w)) :
    ∀ W, Below w.heap.size w W → Calls Try.prog 33 #[.agg #[.int .i64 n, .slice a m c], .slice (some ⟨W.heap.size, 0, none⟩) 1 1] (W.alloc (.cells #[.slice al ml cl] 25)) fun e w' => e = .returned (.bool (edF n es l)) ∧ Below W.heap.size W w' := fun W hW => by
  have hb := (Below.refl W.heap.size W).alloc (Nat.le_refl _) (.cells #[.slice al ml cl] 25)
  subst hl
  refine (pusable_some n a m c es hes [.slice al l.length cl] [okL m l] W.heap.size 1 1 rfl rfl (by omega) _ ((hE.on hW).on hb) (Lib.hid fun j v hj => ?_) (Lib.hid fun j v q hj hq => ?_)).mono ?_
  · match j, hj with
    | 0, hj => obtain rfl : Value.slice al l.length cl = v := by simpa using hj
               simp
    | j + 1, hj => simp at hj
  · match j, hj, hq with
    | 0, hj, hq => obtain rfl : Value.slice al l.length cl = v := by simpa using hj
                   obtain rfl : okL m l = q := by simpa using hq
                   exact ⟨l, al, cl, rfl, (HL.out.on hW).on hb, rfl, hm⟩
    | j + 1, hj, hq => simp at hj
  · rintro e w' ⟨rfl, hB⟩
    exact ⟨by rw [edF, hes]; simp, on_trans hb hB⟩
/-- .. as the first call of a function whose graph lies in its first new block. -/
theorem usable_first {n : Int} {a : Option Addr} {m c : Nat} {us : Array Value} {k : Nat} {F : Bool} {w : World}
    (HE : Hid (∀ W, Below w.heap.size w W → Calls Try.prog 33 #[.agg #[.int .i64 n, .slice a m c], .slice (some ⟨W.heap.size, 0, none⟩) k k] (W.alloc (.cells us 25)) fun e w' => e = .returned (.bool F) ∧ Below W.heap.size W w')) :
    Hid (Calls Try.prog 33 #[.agg #[.int .i64 n, .slice a m c], .slice (some ⟨w.heap.size + 1, 0, none⟩) k k] ((w.alloc (.cells #[.int .i64 n, .slice a m c] 24)).alloc (.cells us 25)) fun e w' => e = .returned (.bool F) ∧ w'.cell? ⟨w.heap.size, 0, none⟩ = some (.int .i64 n) ∧ w'.cell? ⟨w.heap.size, 1, none⟩ = some (.slice a m c) ∧ Below w.heap.size w w') := by
  have hb := (Below.refl w.heap.size w).alloc (Nat.le_refl _) (.cells #[.int .i64 n, .slice a m c] 24)
  have h := HE.out _ hb
  have b0 : (w.alloc (.cells #[.int .i64 n, .slice a m c] 24)).cell? ⟨w.heap.size, 0, none⟩ = some (.int .i64 n) := by simp
  have b1 : (w.alloc (.cells #[.int .i64 n, .slice a m c] 24)).cell? ⟨w.heap.size, 1, none⟩ = some (.slice a m c) := by simp
  have hs : (w.alloc (.cells #[.int .i64 n, .slice a m c] 24)).heap.size = w.heap.size + 1 := World.size_alloc _ _
  have h2 : Calls Try.prog 33 #[.agg #[.int .i64 n, .slice a m c], .slice (some ⟨(w.alloc (.cells #[.int .i64 n, .slice a m c] 24)).heap.size, 0, none⟩) k k] ((w.alloc (.cells #[.int .i64 n, .slice a m c] 24)).alloc (.cells us 25)) fun e w' => e = .returned (.bool F) ∧ w'.cell? ⟨w.heap.size, 0, none⟩ = some (.int .i64 n) ∧ w'.cell? ⟨w.heap.size, 1, none⟩ = some (.slice a m c) ∧ Below w.heap.size w w' :=
    h.mono fun e w' ⟨e1, e2⟩ => ⟨e1, cell_on e2 b0, cell_on e2 b1, on_trans hb e2⟩
  rw [hs] at h2
  exact Lib.hid h2
/-- usable of two lists. -/
theorem pusable_two (n : Int) (a : Option Addr) (m c : Nat) (es : List Ed) (hes : es.length = m) (l r : List Int) (al ar : Option Addr) (ml cl mr cr : Nat) (hl : l.length = ml) (hr : r.length = mr) (hm : ml ≤ 4000000) (hm2 : mr ≤ 4000000) (w : World) (hE : EdgesAt w (.slice a m c) es) (HL : Hid (Ints l al ml w)) (HR : Hid (Ints r ar mr w)) :
    ∀ W, Below w.heap.size w W → Calls Try.prog 33 #[.agg #[.int .i64 n, .slice a m c], .slice (some ⟨W.heap.size, 0, none⟩) 2 2] (W.alloc (.cells #[.slice al ml cl, .slice ar mr cr] 25)) fun e w' => e = .returned (.bool (edF n es l && edF n es r)) ∧ Below W.heap.size W w' := fun W hW => by
  have hb := (Below.refl W.heap.size W).alloc (Nat.le_refl _) (.cells #[.slice al ml cl, .slice ar mr cr] 25)
  subst hl
  subst hr
  refine (pusable_some n a m c es hes [.slice al l.length cl, .slice ar r.length cr] [okL m l, okL m r] W.heap.size 2 2 rfl rfl (by omega) _ ((hE.on hW).on hb) (Lib.hid fun j v hj => ?_) (Lib.hid fun j v q hj hq => ?_)).mono ?_
  · match j, hj with
    | 0, hj => obtain rfl : Value.slice al l.length cl = v := by simpa using hj
               simp
    | 1, hj => obtain rfl : Value.slice ar r.length cr = v := by simpa using hj
               simp
    | j + 2, hj => simp at hj
  · match j, hj, hq with
    | 0, hj, hq => obtain rfl : Value.slice al l.length cl = v := by simpa using hj
                   obtain rfl : okL m l = q := by simpa using hq
                   exact ⟨l, al, cl, rfl, (HL.out.on hW).on hb, rfl, hm⟩
    | 1, hj, hq => obtain rfl : Value.slice ar r.length cr = v := by simpa using hj
                   obtain rfl : okL m r = q := by simpa using hq
                   exact ⟨r, ar, cr, rfl, (HR.out.on hW).on hb, rfl, hm2⟩
    | j + 2, hj, hq => simp at hj
  · rintro e w' ⟨rfl, hB⟩
    refine ⟨?_, on_trans hb hB⟩
    rw [edF, edF, hes]
    cases decide (rightF n es = 0) <;> simp
end Go.Proofs.Ytifljelphniipaa
