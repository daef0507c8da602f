import Derived.Test.YtifljelphniipaaGraZa
set_option linter.unusedVariables false
set_option linter.unusedSimpArgs false
namespace Go.Proofs.Ytifljelphniipaa
open Go.RowKit
set_option maxHeartbeats 1000000 in
theorem pidxE_some (n : Int) (E : Value) (B : Nat) (es : List Ed) (b off c m : Nat) (hm : es.length = m) (hl : m ≤ 4000000) (w : World)
    (h1 : Hid (∀ (j : Nat) e, es[j]? = some e → w.cell? ⟨b, off + j * 3, none⟩ = some (.int .i64 e.f) ∧ w.cell? ⟨b, off + j * 3 + 1, none⟩ = some (.int .i64 e.t) ∧ w.cell? ⟨b, off + j * 3 + 2, none⟩ = some (.int .u64 (e.w : Int)))) (g0 : w.cell? ⟨B, 0, none⟩ = some (.int .i64 n)) (g1 : w.cell? ⟨B, 1, none⟩ = some E) :
    Calls Try.prog 58 #[.slice (some ⟨b, off, none⟩) m c, .func (.func 52) #[] #[.pointer (some ⟨B, 0, none⟩)]] w fun e w' => ∃ r : Int, e = .returned (.int .i64 r) ∧ -1 ≤ r ∧ decide (0 ≤ r) = !es.all (endsB n) ∧ Below w.heap.size w w' := by
  go_enter Try.func58, Try.ntmps58
  go_wp2
  go_loopw [8] (fun i wr => ∃ k : Nat, k ≤ m ∧ i = .int .i64 k ∧ Hid (AllE (endsB n) es k) ∧ Hid (Below w.heap.size w wr)) (fun i _ => m - (RowKit.intOf i).toNat)
  case atStart => exact ⟨0, Nat.zero_le _, rfl, Lib.hid fun j _ h => by omega, Lib.hid (Below.refl _ _)⟩
  case round =>
    obtain ⟨k, hk, rfl, HA, HB⟩ := hrel
    by_cases hlt : k < m
    · have hx0 : es[k]? = some (es[k]'(by omega)) := List.getElem?_eq_getElem (by omega)
      obtain ⟨⟨f, t, x⟩, hx⟩ : ∃ x, es[k]'(by omega) = x := ⟨_, rfl⟩
      rw [hx] at hx0
      obtain ⟨e1, e2, e3⟩ := h1.out k _ hx0
      have e1 := cell_on HB.out e1
      have e2 := cell_on HB.out e2
      have e3 := cell_on HB.out e3
      simp only at e1 e2 e3
      have HC := Lib.hid (pwronge_any n f t x E B wr (cell_on HB.out g0) (cell_on HB.out g1))
      cases hr : (endsB n) ⟨f, t, x⟩
      · have HN := Lib.hid (allE_no (p := (endsB n)) hx0 hr)
        rw [hr] at HC
        clear hr hx hx0
        go_wp2_with (go_at_call 52; refine HC.out.mono ?_; rintro e w1 ⟨rfl, hB⟩; have HB1 := Lib.hid (on_trans HB.out hB); clear hB)
        go_ret
        exact ⟨_, rfl, by omega, by rw [HN.out, decide_eq_true (by omega)]; rfl, HB1.out⟩
      · have HN := Lib.hid (HA.out.succ hx0 hr)
        rw [hr] at HC
        clear hr hx hx0
        go_wp2_with (go_at_call 52; refine HC.out.mono ?_; rintro e w1 ⟨rfl, hB⟩; have HB1 := Lib.hid (on_trans HB.out hB); clear hB)
        go_roundw
        case rel => exact ⟨k + 1, by omega, by go_num, HN, HB1⟩
        case measure => simp [RowKit.intOf] <;> omega
    · obtain rfl : k = m := by omega
      have HN := Lib.hid (allE_all (p := (endsB n)) (es := es) (by rw [hm]; exact HA.out))
      go_wp2
      go_ret
      exact ⟨_, rfl, by omega, by rw [HN.out, decide_eq_false (by omega)]; rfl, HB.out⟩
set_option maxHeartbeats 400000 in
theorem pidxE_none (B : Nat) (a : Option Addr) (c : Nat) (w : World) :
    Calls Try.prog 58 #[.slice a 0 c, .func (.func 52) #[] #[.pointer (some ⟨B, 0, none⟩)]] w fun e w' => e = .returned (.int .i64 (-1)) ∧ w' = w := by
  go_enter Try.func58, Try.ntmps58
  go_wp2
  refine wp_loop_rounds 1 ?_
  rw [rounds_succ]
  go_wp2
  go_ret
  exact ⟨rfl, rfl⟩
theorem pidxE_any (n : Int) (E : Value) (B : Nat) {v : Value} {es : List Ed} (hl : es.length ≤ 4000000) (w : World) (h : EdgesAt w v es) (g0 : w.cell? ⟨B, 0, none⟩ = some (.int .i64 n)) (g1 : w.cell? ⟨B, 1, none⟩ = some E) :
    Calls Try.prog 58 #[v, .func (.func 52) #[] #[.pointer (some ⟨B, 0, none⟩)]] w fun e w' => ∃ r : Int, e = .returned (.int .i64 r) ∧ -1 ≤ r ∧ decide (0 ≤ r) = !es.all (endsB n) ∧ Below w.heap.size w w' := by
  obtain ⟨a1, c1, rfl, _, q⟩ := h
  by_cases h0 : es.length = 0
  · obtain rfl := List.length_eq_zero_iff.1 h0
    refine (pidxE_none B a1 c1 w).mono ?_
    rintro e w' ⟨rfl, rfl⟩
    exact ⟨_, rfl, by omega, rfl, Below.refl _ _⟩
  · obtain ⟨b1, o1, rfl, k1⟩ := q (by omega)
    exact pidxE_some n E B es b1 o1 c1 _ rfl hl w (Lib.hid k1) g0 g1
set_option maxHeartbeats 400000 in
theorem pconE_any (n : Int) (E : Value) (B : Nat) {v : Value} {es : List Ed} (hl : es.length ≤ 4000000) (w : World) (h : EdgesAt w v es) (g0 : w.cell? ⟨B, 0, none⟩ = some (.int .i64 n)) (g1 : w.cell? ⟨B, 1, none⟩ = some E) :
    Calls Try.prog 55 #[v, .func (.func 52) #[] #[.pointer (some ⟨B, 0, none⟩)]] w fun e w' => e = .returned (.bool (!es.all (endsB n))) ∧ Below w.heap.size w w' := by
  have HC := Lib.hid (pidxE_any n E B hl w h g0 g1)
  obtain ⟨a1, c1, rfl, _, _⟩ := h
  generalize (!es.all (endsB n)) = r0 at HC ⊢
  go_enter Try.func55, Try.ntmps55
  go_wp2_with (go_at_call 58; refine HC.out.mono ?_; rintro e w1 ⟨r, rfl, hr1, hr2, hB⟩; have HB := Lib.hid hB; clear hB)
  go_ret
  exact ⟨by rw [← hr2]; rfl, HB.out⟩
set_option maxHeartbeats 1000000 in
theorem pidxW_some (n : Int) (E : Value) (B : Nat) (es : List Ed) (b off c m : Nat) (hm : es.length = m) (hl : m ≤ 4000000) (w : World)
    (h1 : Hid (∀ (j : Nat) e, es[j]? = some e → w.cell? ⟨b, off + j * 3, none⟩ = some (.int .i64 e.f) ∧ w.cell? ⟨b, off + j * 3 + 1, none⟩ = some (.int .i64 e.t) ∧ w.cell? ⟨b, off + j * 3 + 2, none⟩ = some (.int .u64 (e.w : Int)))) :
    Calls Try.prog 58 #[.slice (some ⟨b, off, none⟩) m c, .func (.func 53) #[] #[]] w fun e w' => ∃ r : Int, e = .returned (.int .i64 r) ∧ -1 ≤ r ∧ decide (0 ≤ r) = !es.all (fun e : Ed => weightB e.w) ∧ Below w.heap.size w w' := by
  go_enter Try.func58, Try.ntmps58
  go_wp2
  go_loopw [8] (fun i wr => ∃ k : Nat, k ≤ m ∧ i = .int .i64 k ∧ Hid (AllE (fun e : Ed => weightB e.w) es k) ∧ Hid (Below w.heap.size w wr)) (fun i _ => m - (RowKit.intOf i).toNat)
  case atStart => exact ⟨0, Nat.zero_le _, rfl, Lib.hid fun j _ h => by omega, Lib.hid (Below.refl _ _)⟩
  case round =>
    obtain ⟨k, hk, rfl, HA, HB⟩ := hrel
    by_cases hlt : k < m
    · have hx0 : es[k]? = some (es[k]'(by omega)) := List.getElem?_eq_getElem (by omega)
      obtain ⟨⟨f, t, x⟩, hx⟩ : ∃ x, es[k]'(by omega) = x := ⟨_, rfl⟩
      rw [hx] at hx0
      obtain ⟨e1, e2, e3⟩ := h1.out k _ hx0
      have e1 := cell_on HB.out e1
      have e2 := cell_on HB.out e2
      have e3 := cell_on HB.out e3
      simp only at e1 e2 e3
      have HC : Hid (Calls Try.prog 53 #[.agg #[.int .i64 f, .int .i64 t, .int .u64 (x : Int)]] wr fun e w' => e = .returned (.bool (!(fun e : Ed => weightB e.w) ⟨f, t, x⟩)) ∧ Below wr.heap.size wr w') := Lib.hid (pwrongw_any f t x wr)
      cases hr : (fun e : Ed => weightB e.w) ⟨f, t, x⟩
      · have HN := Lib.hid (allE_no (p := (fun e : Ed => weightB e.w)) hx0 hr)
        rw [hr] at HC
        clear hr hx hx0
        go_wp2_with (go_at_call 53; refine HC.out.mono ?_; rintro e w1 ⟨rfl, hB⟩; have HB1 := Lib.hid (on_trans HB.out hB); clear hB)
        go_ret
        exact ⟨_, rfl, by omega, by rw [HN.out, decide_eq_true (by omega)]; rfl, HB1.out⟩
      · have HN := Lib.hid (HA.out.succ hx0 hr)
        rw [hr] at HC
        clear hr hx hx0
        go_wp2_with (go_at_call 53; refine HC.out.mono ?_; rintro e w1 ⟨rfl, hB⟩; have HB1 := Lib.hid (on_trans HB.out hB); clear hB)
        go_roundw
        case rel => exact ⟨k + 1, by omega, by go_num, HN, HB1⟩
        case measure => simp [RowKit.intOf] <;> omega
    · obtain rfl : k = m := by omega
      have HN := Lib.hid (allE_all (p := (fun e : Ed => weightB e.w)) (es := es) (by rw [hm]; exact HA.out))
      go_wp2
      go_ret
      exact ⟨_, rfl, by omega, by rw [HN.out, decide_eq_false (by omega)]; rfl, HB.out⟩
set_option maxHeartbeats 400000 in
theorem pidxW_none (B : Nat) (a : Option Addr) (c : Nat) (w : World) :
    Calls Try.prog 58 #[.slice a 0 c, .func (.func 53) #[] #[]] w fun e w' => e = .returned (.int .i64 (-1)) ∧ w' = w := by
  go_enter Try.func58, Try.ntmps58
  go_wp2
  refine wp_loop_rounds 1 ?_
  rw [rounds_succ]
  go_wp2
  go_ret
  exact ⟨rfl, rfl⟩
theorem pidxW_any (n : Int) (E : Value) (B : Nat) {v : Value} {es : List Ed} (hl : es.length ≤ 4000000) (w : World) (h : EdgesAt w v es) :
    Calls Try.prog 58 #[v, .func (.func 53) #[] #[]] w fun e w' => ∃ r : Int, e = .returned (.int .i64 r) ∧ -1 ≤ r ∧ decide (0 ≤ r) = !es.all (fun e : Ed => weightB e.w) ∧ Below w.heap.size w w' := by
  obtain ⟨a1, c1, rfl, _, q⟩ := h
  by_cases h0 : es.length = 0
  · obtain rfl := List.length_eq_zero_iff.1 h0
    refine (pidxW_none B a1 c1 w).mono ?_
    rintro e w' ⟨rfl, rfl⟩
    exact ⟨_, rfl, by omega, rfl, Below.refl _ _⟩
  · obtain ⟨b1, o1, rfl, k1⟩ := q (by omega)
    exact pidxW_some n E B es b1 o1 c1 _ rfl hl w (Lib.hid k1)
set_option maxHeartbeats 400000 in
theorem pconW_any (n : Int) (E : Value) (B : Nat) {v : Value} {es : List Ed} (hl : es.length ≤ 4000000) (w : World) (h : EdgesAt w v es) :
    Calls Try.prog 55 #[v, .func (.func 53) #[] #[]] w fun e w' => e = .returned (.bool (!es.all (fun e : Ed => weightB e.w))) ∧ Below w.heap.size w w' := by
  have HC := Lib.hid (pidxW_any n E B hl w h)
  obtain ⟨a1, c1, rfl, _, _⟩ := h
  generalize (!es.all (fun e : Ed => weightB e.w)) = r0 at HC ⊢
  go_enter Try.func55, Try.ntmps55
  go_wp2_with (go_at_call 58; refine HC.out.mono ?_; rintro e w1 ⟨r, rfl, hr1, hr2, hB⟩; have HB := Lib.hid hB; clear hB)
  go_ret
  exact ⟨by rw [← hr2]; rfl, HB.out⟩
set_option maxHeartbeats 1000000 in
theorem pright_range (n : Int) (h : n < 1 ∨ 4096 < n) (E : Value) (w : World) :
    Calls Try.prog 46 #[.agg #[.int .i64 n, E]] w fun e w' => e = .returned (.int .i64 2) ∧ Below w.heap.size w w' := by
  have HB1 := Lib.hid ((Below.refl w.heap.size w).alloc (Nat.le_refl _) (.cells #[.int .i64 n, E] 24))
  have hd : n < 1 ∨ (1 ≤ n ∧ 4096 < n) := by omega
  clear h
  rcases hd with h | ⟨h, h'⟩
  all_goals
    go_enter Try.func46, Try.ntmps46
    go_wp2
    go_ret
    exact ⟨rfl, HB1.out⟩
set_option maxHeartbeats 1000000 in
theorem pright_big (n : Int) (h1 : 1 ≤ n) (h2 : n ≤ 4096) (a : Option Addr) (m c : Nat) (hm : (16384 : Int) < (m : Int)) (w : World) :
    Calls Try.prog 46 #[.agg #[.int .i64 n, .slice a m c]] w fun e w' => e = .returned (.int .i64 5) ∧ Below w.heap.size w w' := by
  have HB1 := Lib.hid ((Below.refl w.heap.size w).alloc (Nat.le_refl _) (.cells #[.int .i64 n, .slice a m c] 24))
  go_enter Try.func46, Try.ntmps46
  go_wp2
  go_ret
  exact ⟨rfl, HB1.out⟩
set_option maxHeartbeats 2000000 in
theorem pright_some (n : Int) (h1 : 1 ≤ n) (h2 : n ≤ 4096) {es : List Ed} (a : Option Addr) (m c : Nat) (hm : es.length = m) (hl : m ≤ 16384) (w : World) (h : EdgesAt w (.slice a m c) es) :
    Calls Try.prog 46 #[.agg #[.int .i64 n, .slice a m c]] w fun e w' => e = .returned (.int .i64 (if es.all (endsB n) = true then (if es.all (fun e => weightB e.w) = true then 0 else 2) else 7)) ∧ Below w.heap.size w w' := by
  have hb := (Below.refl w.heap.size w).alloc (Nat.le_refl _) (.cells #[.int .i64 n, .slice a m c] 24)
  have c0 : (w.alloc (.cells #[.int .i64 n, .slice a m c] 24)).cell? ⟨w.heap.size, 0, none⟩ = some (.int .i64 n) := by simp
  have c1 : (w.alloc (.cells #[.int .i64 n, .slice a m c] 24)).cell? ⟨w.heap.size, 1, none⟩ = some (.slice a m c) := by simp
  have hE := h.on hb
  have HB := Lib.hid hb
  have HC1 := Lib.hid (fun W (hW : Below (w.alloc (.cells #[.int .i64 n, .slice a m c] 24)).heap.size (w.alloc (.cells #[.int .i64 n, .slice a m c] 24)) W) => pconE_any n (.slice a m c) w.heap.size (by omega) W (hE.on hW) (cell_on hW c0) (cell_on hW c1))
  have HC2 := Lib.hid (fun W (hW : Below (w.alloc (.cells #[.int .i64 n, .slice a m c] 24)).heap.size (w.alloc (.cells #[.int .i64 n, .slice a m c] 24)) W) => pconW_any n (.slice a m c) w.heap.size (by omega) W (hE.on hW))
  clear h hE hb hm
  have hmi : (m : Int) ≤ 16384 := by omega
  generalize es.all (endsB n) = r1 at HC1 ⊢
  generalize es.all (fun e => weightB e.w) = r2 at HC2 ⊢
  clear es
  cases r1
  · go_enter Try.func46, Try.ntmps46
    go_wp2_with (go_at_call 55; refine (HC1.out _ (Below.refl _ _)).mono ?_; rintro e w1 ⟨rfl, hB⟩; have HB1 := Lib.hid (HB.out.trans (hB.mono HB.out.size)); clear hB)
    go_ret
    exact ⟨rfl, HB1.out⟩
  · cases r2
    all_goals
      go_enter Try.func46, Try.ntmps46
      go_wp2_with (first
        | (go_at_call 55; refine (HC1.out _ (Below.refl _ _)).mono ?_; rintro e w1 ⟨rfl, hB⟩; have c1' := cell_on hB c1; have HB1 := Lib.hid hB; clear hB HC1)
        | (go_at_call 55; refine (HC2.out _ HB1.out).mono ?_; rintro e w2 ⟨rfl, hB⟩; have HB2 := Lib.hid (HB.out.trans ((on_trans HB1.out hB).mono HB.out.size)); clear hB HC2))
      go_ret
      exact ⟨rfl, HB2.out⟩
theorem pright_any (n : Int) {v : Value} {es : List Ed} (w : World) (h : EdgesAt w v es) :
    Calls Try.prog 46 #[.agg #[.int .i64 n, v]] w fun e w' => e = .returned (.int .i64 (rightF n es)) ∧ Below w.heap.size w w' := by
  unfold rightF
  by_cases hr : n < 1 ∨ 4096 < n
  · rw [if_pos hr]
    exact pright_range n hr v w
  · rw [if_neg hr]
    have h' := h
    obtain ⟨a, c, rfl, _, g⟩ := h
    by_cases hl : 16384 < es.length
    · rw [if_pos hl]
      exact pright_big n (by omega) (by omega) a _ c (by omega) w
    · rw [if_neg hl]
      exact pright_some n (by omega) (by omega) a _ c rfl (by omega) w h'
end Go.Proofs.Ytifljelphniipaa
