import Derived.Test.YtcgijabnknemiaaGraJ
set_option linter.unusedVariables false
set_option linter.unusedSimpArgs false
namespace Go.Proofs.Ytcgijabnknemiaa
open Go.RowKit
theorem edges_nil (w : World) : EdgesAt w (.slice none 0 0) [] := ⟨none, 0, rfl, Nat.le_refl _, fun h => absurd h (by simp)⟩
theorem edgesAt_flat {w : World} {v : Value} {es : List Ed} (h : EdgesAt w v es) : ∃ a c, v = .slice a es.length c ∧ (0 < es.length → ∃ b off, a = some ⟨b, off, none⟩ ∧ ∀ (j : Nat) e, es[j]? = some e → w.cell? ⟨b, off + j * 3, none⟩ = some (.int .i64 e.f) ∧ w.cell? ⟨b, off + j * 3 + 1, none⟩ = some (.int .i64 e.t) ∧ w.cell? ⟨b, off + j * 3 + 2, none⟩ = some (.int .u64 (e.w : Int))) := by
  obtain ⟨a, c, rfl, _, h⟩ := h
  exact ⟨a, c, rfl, h⟩
set_option maxHeartbeats 1000000 in
theorem rwith_no (n : Int) (a : Option Addr) (m c : Nat) (k : Int) (x : Nat) (F R : Int) (hF : (F ≠ 0 ∧ R = 1) ∨ (F = 0 ∧ (k < 0 ∨ (m : Int) ≤ k) ∧ R = 8) ∨ (F = 0 ∧ 0 ≤ k ∧ k < (m : Int) ∧ weightB x = false ∧ R = 2)) (w : World)
    (HR : Hid (∀ W, Below w.heap.size w W → Calls Try.prog 10 #[.agg #[.int .i64 n, .slice a m c]] W fun e w' => e = .returned (.int .i64 F) ∧ Below W.heap.size W w')) :
    Calls Try.prog 24 #[.agg #[.int .i64 n, .slice a m c], .int .i64 k, .int .u64 (x : Int)] w fun e w' => e = .returned (.tuple #[.agg #[.int .i64 0, .slice none 0 0], .int .i64 R]) ∧ Below w.heap.size w w' := by
  have HB0 := Lib.hid (((Below.refl w.heap.size w).alloc (Nat.le_refl _) (.cells #[.int .i64 n, .slice a m c] 24)).alloc (by simp) (.cells #[.int .i64 0, .slice none 0 0] 24))
  have HW := Lib.hid (fun W => rweight_any x W)
  have hd : (F ≠ 0 ∧ R = 1) ∨ (F = 0 ∧ k < 0 ∧ R = 8) ∨ (F = 0 ∧ 0 ≤ k ∧ (m : Int) ≤ k ∧ R = 8) ∨ (F = 0 ∧ 0 ≤ k ∧ k < (m : Int) ∧ weightB x = false ∧ R = 2) := by
    rcases hF with h | ⟨h1, h2 | h2, h3⟩ | h
    · exact .inl h
    · exact .inr (.inl ⟨h1, h2, h3⟩)
    · by_cases hk : k < 0
      · exact .inr (.inl ⟨h1, hk, h3⟩)
      · exact .inr (.inr (.inl ⟨h1, by omega, h2, h3⟩))
    · exact .inr (.inr (.inr h))
  clear hF
  rcases hd with ⟨h, rfl⟩ | ⟨rfl, h, rfl⟩ | ⟨rfl, h, h', rfl⟩ | ⟨rfl, h, h', hx, rfl⟩
  · have hne : (F != 0) = true := by rw [bne_iff_ne]; exact h
    clear h HW
    go_enter Try.func24, Try.ntmps24
    go_wp2_with (go_at_call 10; refine (HR.out _ HB0.out).mono ?_; rintro e w1 ⟨rfl, hB⟩; have c0 := cell_on hB (p := ⟨w.heap.size + 1, 0, none⟩) (v := .int .i64 0) (by simp); have c1 := cell_on hB (p := ⟨w.heap.size + 1, 1, none⟩) (v := .slice none 0 0) (by simp); have f0 := frozen_on hB (p := ⟨w.heap.size + 1, 0, none⟩) (v := .int .i64 0) (by simp) (by simp); have f1 := frozen_on hB (p := ⟨w.heap.size + 1, 1, none⟩) (v := .slice none 0 0) (by simp) (by simp); have HB1 := Lib.hid (on_trans HB0.out hB); clear hB HR)
    have h2 := set2_cells c0 c1 (.int .i64 0) (.slice none 0 0)
    exact bodyPost_ret_by (resGT rfl _ rfl h2.1 h2.2) rfl ⟨rfl, (HB1.out.setCell (by simp) _).setCell (by simp) _⟩
  · clear HW
    go_enter Try.func24, Try.ntmps24
    go_wp2_with (go_at_call 10; refine (HR.out _ HB0.out).mono ?_; rintro e w1 ⟨rfl, hB⟩; have b1 := cell_on hB (p := ⟨w.heap.size, 1, none⟩) (v := .slice a m c) (by simp); have c0 := cell_on hB (p := ⟨w.heap.size + 1, 0, none⟩) (v := .int .i64 0) (by simp); have c1 := cell_on hB (p := ⟨w.heap.size + 1, 1, none⟩) (v := .slice none 0 0) (by simp); have f0 := frozen_on hB (p := ⟨w.heap.size + 1, 0, none⟩) (v := .int .i64 0) (by simp) (by simp); have f1 := frozen_on hB (p := ⟨w.heap.size + 1, 1, none⟩) (v := .slice none 0 0) (by simp) (by simp); have HB1 := Lib.hid (on_trans HB0.out hB); clear hB HR)
    have h2 := set2_cells c0 c1 (.int .i64 0) (.slice none 0 0)
    exact bodyPost_ret_by (resGT rfl _ rfl h2.1 h2.2) rfl ⟨rfl, (HB1.out.setCell (by simp) _).setCell (by simp) _⟩
  · clear HW
    go_enter Try.func24, Try.ntmps24
    go_wp2_with (go_at_call 10; refine (HR.out _ HB0.out).mono ?_; rintro e w1 ⟨rfl, hB⟩; have b1 := cell_on hB (p := ⟨w.heap.size, 1, none⟩) (v := .slice a m c) (by simp); have c0 := cell_on hB (p := ⟨w.heap.size + 1, 0, none⟩) (v := .int .i64 0) (by simp); have c1 := cell_on hB (p := ⟨w.heap.size + 1, 1, none⟩) (v := .slice none 0 0) (by simp); have f0 := frozen_on hB (p := ⟨w.heap.size + 1, 0, none⟩) (v := .int .i64 0) (by simp) (by simp); have f1 := frozen_on hB (p := ⟨w.heap.size + 1, 1, none⟩) (v := .slice none 0 0) (by simp) (by simp); have HB1 := Lib.hid (on_trans HB0.out hB); clear hB HR)
    have h2 := set2_cells c0 c1 (.int .i64 0) (.slice none 0 0)
    exact bodyPost_ret_by (resGT rfl _ rfl h2.1 h2.2) rfl ⟨rfl, (HB1.out.setCell (by simp) _).setCell (by simp) _⟩
  · rw [hx] at HW
    go_enter Try.func24, Try.ntmps24
    go_wp2_with (first
      | (go_at_call 10; refine (HR.out _ HB0.out).mono ?_; rintro e w1 ⟨rfl, hB⟩; have b1 := cell_on hB (p := ⟨w.heap.size, 1, none⟩) (v := .slice a m c) (by simp); have c0 := cell_on hB (p := ⟨w.heap.size + 1, 0, none⟩) (v := .int .i64 0) (by simp); have c1 := cell_on hB (p := ⟨w.heap.size + 1, 1, none⟩) (v := .slice none 0 0) (by simp); have f0 := frozen_on hB (p := ⟨w.heap.size + 1, 0, none⟩) (v := .int .i64 0) (by simp) (by simp); have f1 := frozen_on hB (p := ⟨w.heap.size + 1, 1, none⟩) (v := .slice none 0 0) (by simp) (by simp); have HB1 := Lib.hid (on_trans HB0.out hB); clear hB HR)
      | (go_at_call 32; refine (HW.out _).mono ?_; rintro e w' ⟨rfl, hw'⟩; obtain rfl := hw'.symm; clear HW))
    have h2 := set2_cells c0 c1 (.int .i64 0) (.slice none 0 0)
    exact bodyPost_ret_by (resGT rfl _ rfl h2.1 h2.2) rfl ⟨rfl, (HB1.out.setCell (by simp) _).setCell (by simp) _⟩
/-- With: the fault, and the graph's nodes and edges. -/
def withV (n : Int) (es : List Ed) (k : Int) (x : Nat) : Int × Int × List Ed :=
  if rightF n es ≠ 0 then (1, 0, []) else if k < 0 ∨ (es.length : Int) ≤ k then (8, 0, []) else if weightB x = true then (0, n, es.modify k.toNat fun e => ⟨e.f, e.t, x⟩) else (2, 0, [])
theorem rwith_any (n : Int) {v : Value} {es : List Ed} (k : Int) (x : Nat) (w : World) (h : EdgesAt w v es) :
    Calls Try.prog 24 #[.agg #[.int .i64 n, v], .int .i64 k, .int .u64 (x : Int)] w fun e w' => ∃ v', e = .returned (.tuple #[.agg #[.int .i64 (withV n es k x).2.1, v'], .int .i64 (withV n es k x).1]) ∧ EdgesAt w' v' (withV n es k x).2.2 ∧ Below w.heap.size w w' := by
  have HR := Lib.hid (fun W (hB : Below w.heap.size w W) => rright_any n W (h.on hB))
  obtain ⟨a, c, rfl, g⟩ := edgesAt_flat h
  unfold withV
  by_cases h1 : rightF n es = 0
  · by_cases h2 : k < 0 ∨ (es.length : Int) ≤ k
    · rw [if_neg (by simp [h1]), if_pos h2]
      rw [h1] at HR
      exact (rwith_no n a es.length c k x 0 8 (.inr (.inl ⟨rfl, h2, rfl⟩)) w HR).mono fun e w' ⟨e1, e2⟩ => ⟨_, e1, edges_nil _, e2⟩
    · cases h3 : weightB x
      · rw [if_neg (by simp [h1]), if_neg h2, if_neg (by simp)]
        rw [h1] at HR
        exact (rwith_no n a es.length c k x 0 2 (.inr (.inr ⟨rfl, by omega, by omega, h3, rfl⟩)) w HR).mono fun e w' ⟨e1, e2⟩ => ⟨_, e1, edges_nil _, e2⟩
      · rw [if_neg (by simp [h1]), if_neg h2, if_pos rfl]
        rw [h1] at HR
        obtain ⟨K, rfl⟩ : ∃ K : Nat, k = K := ⟨k.toNat, by omega⟩
        obtain ⟨b, off, rfl, hc⟩ := g (by omega)
        exact rwith_right n es b off es.length c rfl (right_ends h1).2.2.1 K x (by omega) h3 w (Lib.hid (flat_of hc)) HR
  · rw [if_pos h1]
    exact (rwith_no n a es.length c k x _ 1 (.inl ⟨h1, rfl⟩) w HR).mono fun e w' ⟨e1, e2⟩ => ⟨_, e1, edges_nil _, e2⟩
/-- Reverse: the nodes and the edges. -/
def revV (n : Int) (es : List Ed) : Int × List Ed := if rightF n es = 0 then (n, es.map turnE) else (0, [])
theorem rrev_any (n : Int) {v : Value} {es : List Ed} (w : World) (h : EdgesAt w v es) :
    Calls Try.prog 19 #[.agg #[.int .i64 n, v]] w fun e w' => ∃ v', e = .returned (.agg #[.int .i64 (revV n es).1, v']) ∧ EdgesAt w' v' (revV n es).2 ∧ Below w.heap.size w w' := by
  have HR := Lib.hid (fun W (hB : Below w.heap.size w W) => rright_any n W (h.on hB))
  obtain ⟨a, c, rfl, g⟩ := edgesAt_flat h
  unfold revV
  by_cases h1 : rightF n es = 0
  · rw [if_pos h1]
    rw [h1] at HR
    exact rrev_right n es a es.length c rfl (right_ends h1).2.2.1 w (Lib.hid g) HR
  · rw [if_neg h1]
    exact (rrev_wrong n _ _ h1 w HR).mono fun e w' ⟨e1, e2⟩ => ⟨_, e1, edges_nil _, e2⟩
def degV (p : Ed → Int) (n : Int) (es : List Ed) : List Int := if rightF n es = 0 then cntL n.toNat p es else []
theorem ints_nil (w : World) : IntsAt w (.slice none 0 0) [] := ⟨none, 0, rfl, Nat.le_refl _, fun h => absurd h (by simp)⟩
theorem rdeg_any (n : Int) {v : Value} {es : List Ed} (w : World) (h : EdgesAt w v es) :
    Calls Try.prog 17 #[.agg #[.int .i64 n, v]] w fun e w' => ∃ v1 v2, e = .returned (.tuple #[v1, v2]) ∧ IntsAt w' v1 (degV (·.f) n es) ∧ IntsAt w' v2 (degV (·.t) n es) ∧ Below w.heap.size w w' := by
  have HR := Lib.hid (fun W (hB : Below w.heap.size w W) => rright_any n W (h.on hB))
  obtain ⟨a, c, rfl, g⟩ := edgesAt_flat h
  unfold degV
  by_cases h1 : rightF n es = 0
  · rw [if_pos h1, if_pos h1]
    rw [h1] at HR
    obtain ⟨r1, r2, r3, r4⟩ := right_ends h1
    obtain ⟨N, rfl⟩ : ∃ N : Nat, n = N := ⟨n.toNat, by omega⟩
    exact rdeg_right N es a es.length c rfl r3 (by omega) (Lib.hid fun e he => ⟨(r4 e he).1, (r4 e he).2.1, (r4 e he).2.2.1, (r4 e he).2.2.2.1⟩) w (Lib.hid g) HR
  · rw [if_neg h1, if_neg h1]
    exact (rdeg_wrong n _ _ h1 w HR).mono fun e w' ⟨e1, e2⟩ => ⟨_, _, e1, ints_nil _, ints_nil _, e2⟩
/-- highroadref01.Same at any two slices of ints. -/
theorem isame_none (a1 a2 : Option Addr) (c1 c2 : Nat) (w : World) :
    Calls Try.prog 22 #[.slice a1 0 c1, .slice a2 0 c2] w fun e w' => e = .returned (.bool true) ∧ Below w.heap.size w w' := by
  go_enter Try.func22, Try.ntmps22
  go_wp2
  refine wp_loop_rounds 1 ?_
  rw [rounds_succ]
  go_wp2
  go_ret
  exact ⟨rfl, Below.refl _ _⟩
theorem isame_len (a1 a2 : Option Addr) (m1 m2 c1 c2 : Nat) (h : m1 ≠ m2) (w : World) :
    Calls Try.prog 22 #[.slice a1 m1 c1, .slice a2 m2 c2] w fun e w' => e = .returned (.bool false) ∧ Below w.heap.size w w' := by
  have hm : ((m1 : Int) != (m2 : Int)) = true := by rw [bne_iff_ne]; omega
  go_enter Try.func22, Try.ntmps22
  go_wp2
  go_ret
  exact ⟨rfl, Below.refl _ _⟩
theorem isame_any {v1 v2 : Value} {xs ys : List Int} (hl : xs.length ≤ 4000000) (w : World) (h1 : IntsAt w v1 xs) (h2 : IntsAt w v2 ys) :
    Calls Try.prog 22 #[v1, v2] w fun e w' => e = .returned (.bool (decide (xs = ys))) ∧ Below w.heap.size w w' := by
  obtain ⟨a1, c1, rfl, _, g1⟩ := h1
  obtain ⟨a2, c2, rfl, _, g2⟩ := h2
  by_cases hlen : xs.length = ys.length
  · by_cases h0 : xs.length = 0
    · have e1 := List.length_eq_zero_iff.1 h0
      have e2 := List.length_eq_zero_iff.1 (hlen ▸ h0 : ys.length = 0)
      subst e1 e2
      exact isame_none a1 a2 c1 c2 w
    · obtain ⟨b1, o1, rfl, k1⟩ := g1 (by omega)
      obtain ⟨b2, o2, rfl, k2⟩ := g2 (by omega)
      exact isame_some b1 o1 c1 b2 o2 c2 xs ys hlen hl w (Lib.hid k1) (Lib.hid k2)
  · have e : decide (xs = ys) = false := decide_eq_false fun h => hlen (by rw [h])
    rw [e]
    exact isame_len a1 a2 _ _ c1 c2 hlen w
end Go.Proofs.Ytcgijabnknemiaa
