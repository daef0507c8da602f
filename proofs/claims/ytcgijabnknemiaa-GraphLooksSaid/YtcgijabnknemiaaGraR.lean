import Derived.Test.YtcgijabnknemiaaGraQ
set_option linter.unusedVariables false
set_option linter.unusedSimpArgs false
namespace Go.Proofs.Ytcgijabnknemiaa
open Go.RowKit
theorem turn_turn (es : List Ed) : (es.map turnE).map turnE = es := by
  rw [List.map_map]
  have : (turnE ∘ turnE) = id := by funext e; cases e; rfl
  rw [this, List.map_id]
theorem right_iff {n : Int} {es : List Ed} : rightF n es = 0 ↔ 1 ≤ n ∧ n ≤ 4096 ∧ es.length ≤ 16384 ∧ (∀ e ∈ es, 0 ≤ e.f ∧ e.f < n ∧ 0 ≤ e.t ∧ e.t < n ∧ e.f ≠ e.t ∧ 1 ≤ e.w ∧ e.w ≤ 4294967296) := by
  refine ⟨right_ends, fun ⟨h1, h2, h3, h4⟩ => ?_⟩
  have a : es.all (endsB n) = true := List.all_eq_true.2 fun e he => by
    have := h4 e he
    simp [endsB, nodeB]
    omega
  have b : es.all (fun e => weightB e.w) = true := List.all_eq_true.2 fun e he => by
    have := h4 e he
    simp [weightB]
    omega
  unfold rightF
  rw [if_neg (by omega), if_neg (by omega), if_pos a, if_pos b]
theorem right_turn {n : Int} {es : List Ed} (h : rightF n es = 0) : rightF n (es.map turnE) = 0 := by
  obtain ⟨h1, h2, h3, h4⟩ := right_iff.1 h
  refine right_iff.2 ⟨h1, h2, by rw [List.length_map]; exact h3, fun e he => ?_⟩
  obtain ⟨x, hx, rfl⟩ := List.mem_map.1 he
  have := h4 x hx
  simp only [turnE]
  refine ⟨this.2.2.1, this.2.2.2.1, this.1, this.2.1, fun e => this.2.2.2.2.1 e.symm, this.2.2.2.2.2⟩
theorem revV_yes {n : Int} {es : List Ed} (h : rightF n es = 0) : revV n es = (n, es.map turnE) := by unfold revV; rw [if_pos h]
theorem revV_back {n : Int} {es : List Ed} (h : rightF n es = 0) : revV n (es.map turnE) = (n, es) := by rw [revV_yes (right_turn h), turn_turn]
theorem totalV_turn {n : Int} {es : List Ed} (h : rightF n es = 0) : totalV n (es.map turnE) = totalV n es := by
  unfold totalV
  rw [if_pos h, if_pos (right_turn h)]
  have : sumW (es.map turnE) = sumW es := by
    unfold sumW
    rw [List.map_map]
    rfl
  rw [this]
theorem right_modify {n : Int} {es : List Ed} {k x : Nat} (h : rightF n es = 0) (hx : weightB x = true) : rightF n (es.modify k fun e => ⟨e.f, e.t, x⟩) = 0 := by
  obtain ⟨h1, h2, h3, h4⟩ := right_iff.1 h
  refine right_iff.2 ⟨h1, h2, by rw [List.length_modify]; exact h3, fun e he => ?_⟩
  obtain ⟨i, hi, rfl⟩ := List.getElem_of_mem he
  have hi' : i < es.length := by rw [List.length_modify] at hi; exact hi
  rw [List.getElem_modify]
  have := h4 es[i] (List.getElem_mem hi')
  have hw : 1 ≤ x ∧ x ≤ 4294967296 := by simpa [weightB] using hx
  split
  · exact ⟨this.1, this.2.1, this.2.2.1, this.2.2.2.1, this.2.2.2.2.1, hw⟩
  · exact this
theorem modify_back {es : List Ed} {k x : Nat} {e : Ed} (he : es[k]? = some e) : (es.modify k fun e => (⟨e.f, e.t, x⟩ : Ed)).modify k (fun y => ⟨y.f, y.t, e.w⟩) = es := by
  apply List.ext_getElem?
  intro j
  rw [List.getElem?_modify, List.getElem?_modify]
  by_cases hj : k = j
  · subst hj
    rw [he]
    simp
  · simp [hj]
theorem withV_ok {n : Int} {es : List Ed} {k x : Nat} (h : rightF n es = 0) (hk : k < es.length) (hx : weightB x = true) : withV n es (k : Int) x = (0, n, es.modify k fun e => ⟨e.f, e.t, x⟩) := by
  unfold withV
  rw [if_neg (by simp [h]), if_neg (by omega), if_pos hx, Int.toNat_natCast]
theorem withV_no {n : Int} {es : List Ed} {k : Int} {x : Nat} (h : rightF n es = 0) (hb : ¬ (0 ≤ k ∧ k < es.length ∧ weightB x = true)) : (withV n es k x).1 ≠ 0 := by
  unfold withV
  rw [if_neg (by simp [h])]
  by_cases h1 : k < 0 ∨ (es.length : Int) ≤ k
  · rw [if_pos h1]; decide
  · rw [if_neg h1, if_neg (fun e => hb ⟨by omega, by omega, e⟩)]; decide
theorem withV_back {n : Int} {es : List Ed} {k x : Nat} {e : Ed} (h : rightF n es = 0) (he : es[k]? = some e) (hx : weightB x = true) : withV n (es.modify k fun e => ⟨e.f, e.t, x⟩) (k : Int) e.w = (0, n, es) := by
  have hk := (List.getElem?_eq_some_iff.1 he).1
  have hw : weightB e.w = true := by
    have := (right_iff.1 h).2.2.2 e (List.mem_of_getElem? he)
    simp [weightB]
    omega
  rw [withV_ok (right_modify h hx) (by rw [List.length_modify]; exact hk) hw, modify_back he]
theorem kept_all (N k : Nat) (hk : k ≤ N) : keptL (List.replicate N true) k = List.range k := by
  unfold keptL
  rw [List.filter_eq_self]
  intro a ha
  rw [List.mem_range] at ha
  rw [List.getD_eq_getElem?_getD, List.getElem?_replicate, if_pos (by omega)]
  rfl
theorem rk_all (N k : Nat) (hk : k ≤ N) : rk (List.replicate N true) k = k := by
  unfold rk
  rw [kept_all N k hk, List.length_range]
theorem subV_all {N : Nat} {es : List Ed} (h : rightF (N : Int) es = 0) : subV (N : Int) es (List.replicate N true) = ((N : Int), es, natI (List.range N)) := by
  have h4 := (right_iff.1 h).2.2.2
  unfold subV
  rw [if_pos (by simp [subOk, h]), Int.toNat_natCast, rk_all N N (Nat.le_refl _), kept_all N N (Nat.le_refl _)]
  have : subE (List.replicate N true) es = es := by
    unfold subE
    have h1 : es.filter (staysB (List.replicate N true)) = es := by
      rw [List.filter_eq_self]
      intro e he
      have := h4 e he
      simp only [staysB, List.getD_eq_getElem?_getD, List.getElem?_replicate]
      rw [if_pos (by omega), if_pos (by omega)]
      rfl
    rw [h1]
    have h2 : es.map (movedE (List.replicate N true)) = es.map id := List.map_congr_left fun e he => by
      have := h4 e he
      simp only [movedE, id]
      rw [rk_all N _ (by omega), rk_all N _ (by omega)]
      cases e
      simp only [Ed.mk.injEq, and_true]
      refine ⟨?_, ?_⟩ <;> simp only [] at this ⊢ <;> omega
    rw [h2, List.map_id]
  rw [this]
/-- All numbers together are as many as edges. -/
theorem sum_add (l : List Nat) (f g : Nat → Int) : (l.map fun v => f v + g v).sum = (l.map f).sum + (l.map g).sum := by
  induction l with
  | nil => rfl
  | cons a l ih => simp only [List.map_cons, List.sum_cons, ih]; omega
theorem sum_one (N : Nat) (x : Int) : ((List.range N).map fun (v : Nat) => if x = (v : Int) then (1 : Int) else 0).sum = if 0 ≤ x ∧ x < N then 1 else 0 := by
  induction N with
  | zero =>
    rw [if_neg (by omega)]
    rfl
  | succ N ih =>
    rw [List.range_succ, List.map_append, List.sum_append, ih]
    simp only [List.map_cons, List.map_nil, List.sum_cons, List.sum_nil]
    by_cases h1 : 0 ≤ x ∧ x < N
    · rw [if_pos h1, if_neg (by omega), if_pos (by omega)]; rfl
    · by_cases h2 : x = (N : Int)
      · rw [if_neg h1, if_pos h2, if_pos (by omega)]; rfl
      · rw [if_neg h1, if_neg h2, if_neg (by omega)]; rfl
theorem cntL_sum (N : Nat) (p : Ed → Int) : ∀ (es : List Ed), (∀ e ∈ es, 0 ≤ p e ∧ p e < N) → (cntL N p es).sum = es.length
  | [], _ => by
    rw [cntL_nil]
    induction N with
    | zero => rfl
    | succ N ih => rw [List.replicate_succ, List.sum_cons, ih (fun e he => by cases he)]; rfl
  | e :: es, h => by
    have ih := cntL_sum N p es fun x hx => h x (List.mem_cons_of_mem _ hx)
    have h0 := h e List.mem_cons_self
    have h1 : cntL N p (e :: es) = (List.range N).map fun (v : Nat) => (if p e = (v : Int) then (1 : Int) else 0) + cnt p es (v : Int) := by
      unfold cntL
      apply List.map_congr_left
      intro v _
      unfold cnt
      by_cases hv : p e = (v : Int)
      · simp [hv]; omega
      · simp [hv]
    rw [h1, sum_add, sum_one, if_pos h0]
    unfold cntL at ih
    rw [ih, List.length_cons]
    omega
theorem sum_bound (B : Int) (hB : 0 ≤ B) : ∀ (l : List Int), (∀ x ∈ l, 0 ≤ x ∧ x ≤ B) → 0 ≤ l.sum ∧ l.sum ≤ l.length * B
  | [], _ => by simp
  | x :: l, h => by
    have ih := sum_bound B hB l fun y hy => h y (List.mem_cons_of_mem _ hy)
    have h0 := h x List.mem_cons_self
    rw [List.sum_cons, List.length_cons]
    have : ((l.length + 1 : Nat) : Int) * B = l.length * B + B := by rw [Int.natCast_succ, Int.add_mul, Int.one_mul]
    omega
theorem take_sum {l : List Int} {k : Nat} {x : Int} (h : l[k]? = some x) : (l.take (k + 1)).sum = (l.take k).sum + x := by
  obtain ⟨hk, rfl⟩ := List.getElem?_eq_some_iff.1 h
  rw [List.take_succ_eq_append_getElem hk, List.sum_append]
  simp
/-- A block of bools that may be written. -/
def BArr (w : World) (b : Nat) (xs : List Bool) : Prop := ∀ j x, xs[j]? = some x → w.cell? ⟨b, j, none⟩ = some (.bool x) ∧ w.frozen? ⟨b, j, none⟩ = false
def tillL (N k : Nat) : List Bool := (List.range N).map fun j => decide (j < k)
theorem tillL_at {N k j : Nat} (h : j < N) : (tillL N k)[j]? = some (decide (j < k)) := by
  simp only [tillL, List.getElem?_map]
  rw [List.getElem?_range h]; rfl
theorem BArr.set {w : World} {b N k : Nat} (h : BArr w b (tillL N k)) (hk : k < N) : BArr (w.setCell ⟨b, k, none⟩ (.bool true)) b (tillL N (k + 1)) := fun j x hx => by
  have hj : j < N := by have := (List.getElem?_eq_some_iff.1 hx).1; simpa [tillL] using this
  rw [tillL_at hj] at hx
  obtain rfl := Option.some.inj hx
  obtain ⟨h1, h2⟩ := h j _ (tillL_at hj)
  rw [World.frozen?_setCell]
  by_cases e : k = j
  · subst e
    refine ⟨?_, h2⟩
    rw [World.cell?_setCell_same _ _ _ h1]
    simp
  · refine ⟨?_, h2⟩
    rw [World.cell?_setCell_other _ _ _ _ (by simp [Ne.symm e]), h1]
    congr 2
    exact decide_eq_decide.2 (by omega)
theorem BArr.all {w : World} {b N : Nat} (h : BArr w b (tillL N N)) : BoolsAt w (.slice (some ⟨b, 0, none⟩) N N) (List.replicate N true) :=
  ⟨_, N, by rw [List.length_replicate], by rw [List.length_replicate]; exact Nat.le_refl _, fun _ => ⟨b, 0, rfl, fun j x hx => by
    rw [List.getElem?_replicate] at hx
    split at hx
    · rename_i hj
      obtain rfl := Option.some.inj hx
      rw [Nat.zero_add, (h j _ (tillL_at hj)).1, decide_eq_true hj]
    · cases hx⟩⟩
def falses (N : Nat) : Array Value := madeCells (Value.bool false).cells N
theorem infoBool : (Try.prog.info? 4).map (fun i => (i.zero, i.size, i.bytes)) = some (some (.bool false), 1, 1) := by kernel_rfl
theorem mkBools (N : Nat) (hN : N ≤ 1000000) (W : World) : (Instr.makeSlice 39 (.int .i64 (N : Int)) (.int .i64 (N : Int))).run Try.prog W = .ok (.slice (some ⟨W.heap.size, 0, none⟩) N N) (W.alloc (.cells (falses N) 4)) := by
  obtain ⟨i0, hi, hz0, hz1, hz2⟩ := info_parts infoBool
  have h := run_makeSlice (P := Try.prog) W 39 4 i0 (.bool false) Try.underlying39 hi hz0 .i64 .i64 (N : Int) (N : Int) (by omega) (by omega) (by rw [hz1]; omega) (by rw [hz2]; omega) (by omega)
  simpa [hz1, falses] using h
theorem BArr.made (w : World) (N : Nat) : BArr (w.alloc (.cells (falses N) 4)) w.heap.size (tillL N 0) := fun j x hx => by
  have hj : j < N := by have := (List.getElem?_eq_some_iff.1 hx).1; simpa [tillL] using this
  rw [tillL_at hj] at hx
  obtain rfl := Option.some.inj hx
  refine ⟨?_, World.frozen?_alloc_new _ _ _ _⟩
  rw [World.cell?_alloc_new]
  have h1 : j % 1 = 0 := Nat.mod_one j
  simp [falses, madeCells, Value.cells, hj, h1]
end Go.Proofs.Ytcgijabnknemiaa
