import Derived.Test.YtifljelphniipaaPthZk
set_option linter.unusedVariables false
set_option linter.unusedSimpArgs false
namespace Go.Proofs.Ytifljelphniipaa
open Go.RowKit
attribute [local go_sem ↓] Go.wp_at_zero Go.wp_at_succ
theorem intV_len (l : List Int) : (intV l).length = l.length := by simp [intV]
theorem intV_one (l : List Int) : ∀ u ∈ intV l, u.oneCell' = true := fun u hu => by
  obtain ⟨x, _, rfl⟩ := List.mem_map.1 hu
  rfl
theorem intV_append (a b : List Int) : intV (a ++ b) = intV a ++ intV b := by simp [intV]
theorem ints_news {l : List Int} {a : Option Addr} {m : Nat} {w : World} (h : Ints l a m w) (hl : l.length = m) : ∀ ad, a = some ad → ∀ j u, (intV l)[j]? = some u → w.cell? (ad.add j) = some u := fun ad e j u hu => by
  have hj : j < l.length := by have := (List.getElem?_eq_some_iff.1 hu).1; simpa [intV] using this
  obtain ⟨b, off, h1, h2⟩ := h (by omega)
  rw [h1] at e
  obtain rfl := Option.some.inj e
  rw [Addr.add_lit]
  simp only [intV, List.getElem?_map] at hu
  cases hx : l[j]? with
  | none => rw [hx] at hu; cases hu
  | some x =>
    rw [hx] at hu
    obtain rfl : Value.int .i64 x = u := by simpa using hu
    exact h2 j x hx
theorem ints_addr {l : List Int} {a : Option Addr} {m : Nat} {w : World} (h : Ints l a m w) : 0 < m → ∃ ad, a = some ad := fun h0 => by
  obtain ⟨b, off, e, _⟩ := h h0
  exact ⟨_, e⟩
set_option maxHeartbeats 2000000 in
theorem pconcat_two (xs ys : List Int) (a1 a2 : Option Addr) (m1 m2 c1 c2 b : Nat) (h1 : xs.length = m1) (h2 : ys.length = m2) (l1 : m1 ≤ 1000000) (l2 : m2 ≤ 1000000) (w : World) (HX : Hid (Ints xs a1 m1 w)) (HY : Hid (Ints ys a2 m2 w))
    (g0 : w.cell? ⟨b, 0, none⟩ = some (.slice a1 m1 c1)) (g1 : w.cell? ⟨b, 1, none⟩ = some (.slice a2 m2 c2)) :
    Calls Try.prog 36 #[.slice (some ⟨b, 0, none⟩) 2 2] w fun e w' => ∃ v, e = .returned v ∧ IntsAt w' v (xs ++ ys) ∧ Below w.heap.size w w' := by
  have HG := Lib.hid (fun W => pgrow_any (m1 + m2) (by omega) W)
  have k1 : (m1 : Int) ≤ 1000000 := by omega
  have k2 : (m2 : Int) ≤ 1000000 := by omega
  have k3 : (0 : Int) ≤ (m1 : Int) := Int.natCast_nonneg _
  have k4 : (0 : Int) ≤ (m2 : Int) := Int.natCast_nonneg _
  rw [show ((m1 + m2 : Nat) : Int) = (m1 : Int) + (m2 : Int) by omega] at HG
  obtain ⟨i0, hi, hz0, hz1, hz2⟩ := info_parts infoInt
  go_enter Try.func36, Try.ntmps36
  go_wp2
  refine wp_loop_rounds 3 ?_
  rw [rounds_succ]
  go_wp2
  rw [rounds_succ]
  go_wp2
  rw [rounds_succ]
  have G0 := Lib.hid g0
  have G1 := Lib.hid g1
  go_wp2_with (go_at_call 48; refine (HG.out _).mono ?_; rintro e wa ⟨va, rfl, hO, hB⟩; have g0' := cell_on hB g0; have g1' := cell_on hB g1; have HXa := Lib.hid (HX.out.on hB); have HOa := Lib.hid hO; have HBa := Lib.hid hB; clear hO hB HG g0 g1)
  refine wp_loop_rounds 3 ?_
  rw [rounds_succ]
  go_wp2_with (at_builtin; refine wpList_append_upto rfl _ _ 25 rfl w.heap.size 3 i0 (.int .i64 0) 1 8 Try.underlying25 hi hz0 hz1 hz2 rfl (by decide) _ 0 _ rfl HOa.out a1 m1 c1 (intV xs) rfl (by rw [intV_len, Nat.mul_one]; exact h1) (ints_addr HXa.out) (ints_news HXa.out h1) (intV_one _) (by unfold maxLen; omega) (by omega) HBa.out.size ?_; intro vb wb hown hgrow; have HOb := Lib.hid hown; have HBb := Lib.hid (below_growE HBa.out (Nat.le_refl _) HBa.out.size HOa.out hgrow); have g1b := cell_on HBb.out G1.out; have HYb := Lib.hid (HY.out.on HBb.out); clear hown hgrow g0' g1' HXa HOa HBa)
  rw [rounds_succ]
  go_wp2_with (at_builtin; refine wpList_append_upto rfl _ _ 25 rfl w.heap.size 3 i0 (.int .i64 0) 1 8 Try.underlying25 hi hz0 hz1 hz2 rfl (by decide) _ (0 + m1) _ rfl HOb.out a2 m2 c2 (intV ys) rfl (by rw [intV_len, Nat.mul_one]; exact h2) (ints_addr HYb.out) (ints_news HYb.out h2) (intV_one _) (by unfold maxLen; omega) (by omega) HBb.out.size ?_; intro vc wc hown hgrow; have HOc := Lib.hid hown; have HBc := Lib.hid (below_growE HBb.out (Nat.le_refl _) HBb.out.size HOb.out hgrow); clear hown hgrow g1b HYb HOb HBb)
  rw [rounds_succ]
  go_wp2
  go_ret
  have hR := HOc.out
  rw [List.nil_append, ← intV_append, Nat.zero_add, show m1 + m2 = (xs ++ ys).length by rw [List.length_append, h1, h2]] at hR
  exact ⟨_, rfl, ints_own8 hR, HBc.out⟩
theorem join_boxes (w : World) (T : TypeId) (p0 p1 q0 q1 r0 r1 : Value) :
    (((w.alloc (.cells #[p0, p1] T)).alloc (.cells #[q0, q1] T)).alloc (.cells #[r0, r1] T)).drew.cell? ⟨w.heap.size, 0, none⟩ = some p0 ∧ (((w.alloc (.cells #[p0, p1] T)).alloc (.cells #[q0, q1] T)).alloc (.cells #[r0, r1] T)).drew.cell? ⟨w.heap.size, 1, none⟩ = some p1 ∧ (((w.alloc (.cells #[p0, p1] T)).alloc (.cells #[q0, q1] T)).alloc (.cells #[r0, r1] T)).drew.cell? ⟨w.heap.size + 1, 0, none⟩ = some q0 ∧ (((w.alloc (.cells #[p0, p1] T)).alloc (.cells #[q0, q1] T)).alloc (.cells #[r0, r1] T)).drew.cell? ⟨w.heap.size + 1, 1, none⟩ = some q1 ∧ (((w.alloc (.cells #[p0, p1] T)).alloc (.cells #[q0, q1] T)).alloc (.cells #[r0, r1] T)).drew.cell? ⟨w.heap.size + 1 + 1, 0, none⟩ = some r0 ∧ (((w.alloc (.cells #[p0, p1] T)).alloc (.cells #[q0, q1] T)).alloc (.cells #[r0, r1] T)).drew.cell? ⟨w.heap.size + 1 + 1, 1, none⟩ = some r1 ∧
      (((w.alloc (.cells #[p0, p1] T)).alloc (.cells #[q0, q1] T)).alloc (.cells #[r0, r1] T)).drew.frozen? ⟨w.heap.size + 1 + 1, 0, none⟩ = false ∧ (((w.alloc (.cells #[p0, p1] T)).alloc (.cells #[q0, q1] T)).alloc (.cells #[r0, r1] T)).drew.frozen? ⟨w.heap.size + 1 + 1, 1, none⟩ = false := by
  have A0 : (w.alloc (.cells #[p0, p1] T)).cell? ⟨w.heap.size, 0, none⟩ = some p0 := by simp
  have A1 : (w.alloc (.cells #[p0, p1] T)).cell? ⟨w.heap.size, 1, none⟩ = some p1 := by simp
  have s1 : (w.alloc (.cells #[p0, p1] T)).heap.size = w.heap.size + 1 := World.size_alloc _ _
  generalize w.alloc (.cells #[p0, p1] T) = W1 at *
  have B0 : (W1.alloc (.cells #[q0, q1] T)).cell? ⟨W1.heap.size, 0, none⟩ = some q0 := by simp
  have B1 : (W1.alloc (.cells #[q0, q1] T)).cell? ⟨W1.heap.size, 1, none⟩ = some q1 := by simp
  have hB := (Below.refl W1.heap.size W1).alloc (Nat.le_refl _) (.cells #[q0, q1] T)
  have A0 := cell_on hB A0
  have A1 := cell_on hB A1
  have s2 : (W1.alloc (.cells #[q0, q1] T)).heap.size = w.heap.size + 1 + 1 := by rw [World.size_alloc, s1]
  rw [s1] at B0 B1
  generalize W1.alloc (.cells #[q0, q1] T) = W2 at *
  have C0 : (W2.alloc (.cells #[r0, r1] T)).cell? ⟨W2.heap.size, 0, none⟩ = some r0 := by simp
  have C1 : (W2.alloc (.cells #[r0, r1] T)).cell? ⟨W2.heap.size, 1, none⟩ = some r1 := by simp
  have D0 : (W2.alloc (.cells #[r0, r1] T)).frozen? ⟨W2.heap.size, 0, none⟩ = false := by simp
  have D1 : (W2.alloc (.cells #[r0, r1] T)).frozen? ⟨W2.heap.size, 1, none⟩ = false := by simp
  have hC := (Below.refl W2.heap.size W2).alloc (Nat.le_refl _) (.cells #[r0, r1] T)
  rw [s2] at C0 C1 D0 D1
  exact ⟨cell_on hC.drew A0, cell_on hC.drew A1, cell_on hC.drew B0, cell_on hC.drew B1, C0, C1, D0, D1⟩
theorem new_cells {W : World} {H : Nat} (hs : W.heap.size = H) (u v : Value) (T : TypeId) : (W.alloc (.cells #[u, v] T)).cell? ⟨H, 0, none⟩ = some u ∧ (W.alloc (.cells #[u, v] T)).cell? ⟨H, 1, none⟩ = some v := by
  subst hs
  exact ⟨by simp, by simp⟩
theorem loadRt {w : World} {g : Nat} {x y : Value} (h0 : w.cell? ⟨g, 0, none⟩ = some x) (h1 : w.cell? ⟨g, 1, none⟩ = some y) : (loadVar 40 ⟨g, 0, none⟩).run Try.prog w = .ok (.agg #[x, y]) w := by
  have hl : (loadCells ⟨g, 0, none⟩ 2).run Try.prog w = .ok #[x, y] w := by
    have := run_loadCells_list (P := Try.prog) w ⟨g, 0, none⟩ [x, y] (fun j v hv => by
      rw [Addr.add_lit, Nat.zero_add]
      match j, hv with
      | 0, hv => rw [h0]; simpa using hv
      | 1, hv => rw [h1]; simpa using hv
      | j + 2, hv => simp at hv)
    simpa using this
  have ha : (isAgg 40).run Try.prog w = .ok true w := by kernel_rfl
  have hs : (sizeOf 40).run Try.prog w = .ok 2 w := by kernel_rfl
  simp [loadVar, ha, hs, hl]
/-- A result of type Route that lies in a variable. -/
theorem resRt {fn : Func} {p : Tmp} (h : fn.results = #[.cell p 40]) (tmps : Array Value) {w : World} {g : Nat} {x y : Value} (hp : tmps.getD p undef = .pointer (some ⟨g, 0, none⟩)) (h0 : w.cell? ⟨g, 0, none⟩ = some x) (h1 : w.cell? ⟨g, 1, none⟩ = some y) :
    (results fn tmps).run Try.prog w = .ok (.agg #[x, y]) w := by
  have hp' : tmps[p]?.getD undef = .pointer (some ⟨g, 0, none⟩) := by simpa using hp
  simp [results, h, hp', asAddr, loadRt h0 h1]
/-- What holds ints holds no slice and no word of another kind: so a route that is written elsewhere leaves them. -/
theorem ints_set {w : World} {v u0 u1 y0 y1 : Value} {l : List Int} {g : Nat} (h : IntsAt w v l) (h0 : w.cell? ⟨g, 0, none⟩ = some u0) (h1 : w.cell? ⟨g, 1, none⟩ = some u1) (n0 : ∀ x, u0 ≠ .int .i64 x) (n1 : ∀ x, u1 ≠ .int .i64 x) : IntsAt ((w.setCell ⟨g, 0, none⟩ y0).setCell ⟨g, 1, none⟩ y1) v l := by
  obtain ⟨a, c, e, hc, k⟩ := h
  refine ⟨a, c, e, hc, fun hl => ?_⟩
  obtain ⟨b, off, e2, k2⟩ := k hl
  refine ⟨b, off, e2, fun j x hx => ?_⟩
  have hj := k2 j x hx
  have m0 : (⟨g, 0, none⟩ : Addr) ≠ ⟨b, off + j, none⟩ := fun q => by rw [← q, h0] at hj; exact n0 x (Option.some.inj hj)
  have m1 : (⟨g, 1, none⟩ : Addr) ≠ ⟨b, off + j, none⟩ := fun q => by rw [← q, h1] at hj; exact n1 x (Option.some.inj hj)
  rw [World.cell?_setCell_other _ _ _ _ m1, World.cell?_setCell_other _ _ _ _ m0]
  exact hj
theorem four_alloc8 {w : World} {o : Obj} {a b c d : Addr} {p q r s : Value} (h : w.cell? a = some p ∧ w.cell? b = some q ∧ w.cell? c = some r ∧ w.cell? d = some s) : (w.alloc o).cell? a = some p ∧ (w.alloc o).cell? b = some q ∧ (w.alloc o).cell? c = some r ∧ (w.alloc o).cell? d = some s :=
  have hb := (Below.refl w.heap.size w).alloc (Nat.le_refl _) o
  ⟨cell_on hb h.1, cell_on hb h.2.1, cell_on hb h.2.2.1, cell_on hb h.2.2.2⟩
theorem four_set8 {w : World} {H i j : Nat} {A B : Nat} {p q r s u v : Value} (hA : A ≠ H) (hB : B ≠ H) (h : w.cell? ⟨A, 0, none⟩ = some p ∧ w.cell? ⟨A, 1, none⟩ = some q ∧ w.cell? ⟨B, 0, none⟩ = some r ∧ w.cell? ⟨B, 1, none⟩ = some s) :
    ((w.setCell ⟨H, i, none⟩ u).setCell ⟨H, j, none⟩ v).cell? ⟨A, 0, none⟩ = some p ∧ ((w.setCell ⟨H, i, none⟩ u).setCell ⟨H, j, none⟩ v).cell? ⟨A, 1, none⟩ = some q ∧ ((w.setCell ⟨H, i, none⟩ u).setCell ⟨H, j, none⟩ v).cell? ⟨B, 0, none⟩ = some r ∧ ((w.setCell ⟨H, i, none⟩ u).setCell ⟨H, j, none⟩ v).cell? ⟨B, 1, none⟩ = some s := by
  have f : ∀ (X k : Nat) (z : Value), X ≠ H → w.cell? ⟨X, k, none⟩ = some z → ((w.setCell ⟨H, i, none⟩ u).setCell ⟨H, j, none⟩ v).cell? ⟨X, k, none⟩ = some z := fun X k z hX hz => by
    rw [World.cell?_setCell_other _ _ _ _ (fun e => hX (congrArg Addr.block e).symm), World.cell?_setCell_other _ _ _ _ (fun e => hX (congrArg Addr.block e).symm)]; exact hz
  exact ⟨f _ _ _ hA h.1, f _ _ _ hA h.2.1, f _ _ _ hB h.2.2.1, f _ _ _ hB h.2.2.2⟩
set_option maxHeartbeats 2000000 in
theorem pjoin8_some (xs ys : List Int) (a1 a2 : Option Addr) (m1 m2 c1 c2 x y : Nat) (h1 : xs.length = m1) (h2 : ys.length = m2) (l1 : m1 ≤ 1000000) (l2 : m2 ≤ 1000000) (w : World) (HX : Hid (Ints xs a1 m1 w)) (HY : Hid (Ints ys a2 m2 w)) :
    Calls Try.prog 21 #[.agg #[.slice a1 m1 c1, .int .u64 (x : Int)], .agg #[.slice a2 m2 c2, .int .u64 (y : Int)]] w fun e w' => ∃ v', e = .returned (.agg #[v', .int .u64 ((x + y) % 18446744073709551616 : Nat)]) ∧ IntsAt w' v' (xs ++ ys) ∧ Below w.heap.size w w' := by
  have hbA := (Below.refl w.heap.size w).alloc (Nat.le_refl _) (.cells #[.slice a1 m1 c1, .int .u64 (x : Int)] 40)
  have hbB := hbA.alloc hbA.size (.cells #[.slice a2 m2 c2, .int .u64 (y : Int)] 40)
  have hbC := hbB.alloc hbB.size (.cells #[.slice none 0 0, .int .u64 0] 40)
  have hbD := hbC.drew
  have HB := Lib.hid hbD
  have HC := Lib.hid (fun W b (hb : Below w.heap.size w W) g0 g1 => pconcat_two xs ys a1 a2 m1 m2 c1 c2 b h1 h2 l1 l2 W (Lib.hid (HX.out.on hb)) (Lib.hid (HY.out.on hb)) g0 g1)
  obtain ⟨b0, b1, b2, b3, b4, b5, d4, d5⟩ := join_boxes w 40 (.slice a1 m1 c1) (.int .u64 (x : Int)) (.slice a2 m2 c2) (.int .u64 (y : Int)) (.slice none 0 0) (.int .u64 0)
  have hba := (Below.refl (((w.alloc (.cells #[.slice a1 m1 c1, .int .u64 (x : Int)] 40)).alloc (.cells #[.slice a2 m2 c2, .int .u64 (y : Int)] 40)).alloc (.cells #[.slice none 0 0, .int .u64 0] 40)).drew.heap.size (((w.alloc (.cells #[.slice a1 m1 c1, .int .u64 (x : Int)] 40)).alloc (.cells #[.slice a2 m2 c2, .int .u64 (y : Int)] 40)).alloc (.cells #[.slice none 0 0, .int .u64 0] 40)).drew).alloc (Nat.le_refl _) (.cells #[.slice a1 m1 c1, .slice a2 m2 c2] 25)
  have HBA := Lib.hid hba
  have HB4 := Lib.hid (hbD.alloc hbD.size (.cells #[.slice a1 m1 c1, .slice a2 m2 c2] 25))
  have hs3 : (((w.alloc (.cells #[.slice a1 m1 c1, .int .u64 (x : Int)] 40)).alloc (.cells #[.slice a2 m2 c2, .int .u64 (y : Int)] 40)).alloc (.cells #[.slice none 0 0, .int .u64 0] 40)).drew.heap.size = w.heap.size + 1 + 1 + 1 := by simp
  have E01 := new_cells hs3 (.slice a1 m1 c1) (.slice a2 m2 c2) 25
  have E0 := Lib.hid E01.1
  have E1 := Lib.hid E01.2
  clear hba hs3 E01
  have hw2 := guw_add x y
  obtain ⟨z, hz⟩ : ∃ z, (x + y) % 18446744073709551616 = z := ⟨_, rfl⟩
  rw [hz] at hw2 ⊢
  have hn0 : w.heap.size ≠ w.heap.size + 1 + 1 := by omega
  have hn1 : w.heap.size + 1 ≠ w.heap.size + 1 + 1 := by omega
  clear hbA hbB hbC HX HY hz
  go_enter Try.func21, Try.ntmps21
  go_wp2
  go_region_held3 (fun w' => w'.cell? ⟨w.heap.size, 0, none⟩ = some (.slice a1 m1 c1) ∧ w'.cell? ⟨w.heap.size, 1, none⟩ = some (.int .u64 (x : Int)) ∧ w'.cell? ⟨w.heap.size + 1, 0, none⟩ = some (.slice a2 m2 c2) ∧ w'.cell? ⟨w.heap.size + 1, 1, none⟩ = some (.int .u64 (y : Int))) (first | exact ⟨b0, b1, b2, b3⟩ | exact four_alloc8 ⟨b0, b1, b2, b3⟩ | exact four_set8 (hn0) (hn1) ⟨b0, b1, b2, b3⟩) (first
    | (go_at_call 36; refine (HC.out _ _ HB4.out E0.out E1.out).mono ?_; rintro e w2 ⟨v, rfl, hI, hB⟩; have d4 := frozen_on hB (cell_on HBA.out b4) (frozen_on HBA.out b4 d4); have d5 := frozen_on hB (cell_on HBA.out b5) (frozen_on HBA.out b5 d5); have b0 := cell_on hB (cell_on HBA.out b0); have b1 := cell_on hB (cell_on HBA.out b1); have b2 := cell_on hB (cell_on HBA.out b2); have b3 := cell_on hB (cell_on HBA.out b3); have b4 := cell_on hB (cell_on HBA.out b4); have b5 := cell_on hB (cell_on HBA.out b5); obtain ⟨a3, c3, rfl, hc3, hk3⟩ := hI; have HI : Hid (IntsAt w2 (.slice a3 (xs ++ ys).length c3) (xs ++ ys)) := Lib.hid ⟨a3, c3, rfl, hc3, hk3⟩; have HB5 := Lib.hid (on_trans HB4.out hB); clear hB hc3 hk3 HC))
  go_wp2
  have q2 := set2_cells b4 b5 (.slice a3 (m1 + m2) c3) (.int .u64 (z : Int))
  have hl3 : (xs ++ ys).length = m1 + m2 := by rw [List.length_append, h1, h2]
  rw [hl3] at HI
  refine bodyPost_ret_by (resRt rfl _ rfl q2.1 q2.2) rfl ⟨_, rfl, ints_set HI.out b4 b5 (fun x => by simp) (fun x => by simp), (HB5.out.setCell (by show w.heap.size ≤ w.heap.size + 1 + 1; omega) _).setCell (by show w.heap.size ≤ w.heap.size + 1 + 1; omega) _⟩
theorem pjoin8_any (x y : Nat) {v u : Value} {xs ys : List Int} (l1 : xs.length ≤ 1000000) (l2 : ys.length ≤ 1000000) (w : World) (hi : IntsAt w v xs) (hj : IntsAt w u ys) :
    Calls Try.prog 21 #[.agg #[v, .int .u64 (x : Int)], .agg #[u, .int .u64 (y : Int)]] w fun e w' => ∃ v', e = .returned (.agg #[v', .int .u64 ((x + y) % 18446744073709551616 : Nat)]) ∧ IntsAt w' v' (xs ++ ys) ∧ Below w.heap.size w w' := by
  obtain ⟨a1, c1, rfl, _, k1⟩ := hi
  obtain ⟨a2, c2, rfl, _, k2⟩ := hj
  exact pjoin8_some xs ys a1 a2 _ _ c1 c2 x y rfl rfl l1 l2 w (Lib.hid k1) (Lib.hid k2)
end Go.Proofs.Ytifljelphniipaa
