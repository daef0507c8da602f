import Derived.Test.YtpbjknhoiehonaaGraZg
set_option linter.unusedVariables false
set_option linter.unusedSimpArgs false
namespace Go.Proofs.Ytpbjknhoiehonaa
open Go.RowKit
attribute [local go_sem ↓] Go.wp_at_zero Go.wp_at_succ
set_option maxHeartbeats 1000000 in
theorem pdeg_no (n : Int) (E : Value) (w : World) (HV : Hid (∀ W, Below w.heap.size w W → Calls Try.prog 34 #[.agg #[.int .i64 n, E]] W fun e w' => e = .returned (.bool false) ∧ Below W.heap.size W w')) :
    Calls Try.prog 22 #[.agg #[.int .i64 n, E]] w fun e w' => e = .returned (.tuple #[.slice none 0 0, .slice none 0 0]) ∧ Below w.heap.size w w' := by
  have HB0 := Lib.hid ((Below.refl w.heap.size w).alloc (Nat.le_refl _) (.cells #[.int .i64 n, E] 24))
  go_enter Try.func22, Try.ntmps22
  go_wp2_with (go_at_call 34; refine (HV.out _ HB0.out).mono ?_; rintro e w1 ⟨rfl, hB⟩; have HB1 := Lib.hid (on_trans HB0.out hB); clear hB)
  go_ret2
  exact ⟨rfl, HB1.out⟩
set_option maxHeartbeats 4000000 in
theorem pdeg_right (n : Nat) (es : List Ed) (a : Option Addr) (m c : Nat) (hm : es.length = m) (hl : m ≤ 16384) (hn : n ≤ 4096) (hends : Hid (∀ e ∈ es, 0 ≤ e.f ∧ e.f < n ∧ 0 ≤ e.t ∧ e.t < n)) (w : World)
    (HC : Hid (0 < m → ∃ b off, a = some ⟨b, off, none⟩ ∧ ∀ (j : Nat) e, es[j]? = some e → w.cell? ⟨b, off + j * 3, none⟩ = some (.int .i64 e.f) ∧ w.cell? ⟨b, off + j * 3 + 1, none⟩ = some (.int .i64 e.t) ∧ w.cell? ⟨b, off + j * 3 + 2, none⟩ = some (.int .u64 (e.w : Int))))
    (HV : Hid (∀ W, Below w.heap.size w W → Calls Try.prog 34 #[.agg #[.int .i64 n, .slice a m c]] W fun e w' => e = .returned (.bool true) ∧ Below W.heap.size W w')) :
    Calls Try.prog 22 #[.agg #[.int .i64 n, .slice a m c]] w fun e w' => ∃ v1 v2, e = .returned (.tuple #[v1, v2]) ∧ IntsAt w' v1 (cntL n (·.f) es) ∧ IntsAt w' v2 (cntL n (·.t) es) ∧ Below w.heap.size w w' := by
  have HB0 := Lib.hid ((Below.refl w.heap.size w).alloc (Nat.le_refl _) (.cells #[.int .i64 n, .slice a m c] 24))
  have hmk := mkInts n (by omega)
  go_enter Try.func22, Try.ntmps22
  go_wp2_with (go_at_call 34; refine (HV.out _ HB0.out).mono ?_; rintro e w1 ⟨rfl, hB⟩; have b0 := cell_on hB (p := ⟨w.heap.size, 0, none⟩) (v := .int .i64 n) (by simp); have b1 := cell_on hB (p := ⟨w.heap.size, 1, none⟩) (v := .slice a m c) (by simp); have HB1 := Lib.hid (on_trans HB0.out hB); clear hB HV)
  obtain ⟨H, hH⟩ : ∃ H, w1.heap.size = H := ⟨_, rfl⟩
  have hw1 : w.heap.size < H := by have := World.block_lt_of_cell? w1 _ b0; rw [hH] at this; exact this
  have hI1 : Hid (IArr ((w1.alloc (.cells (zeros n) 3)).alloc (.cells (zeros n) 3)).drew H (List.replicate n 0)) := Lib.hid (IArr.zeros fun j hj => by subst hH; simp)
  have hI2 : Hid (IArr ((w1.alloc (.cells (zeros n) 3)).alloc (.cells (zeros n) 3)).drew (H + 1) (List.replicate n 0)) := Lib.hid (IArr.zeros fun j hj => by subst hH; simp)
  have hBD : Hid (Below H w1 ((w1.alloc (.cells (zeros n) 3)).alloc (.cells (zeros n) 3)).drew) := Lib.hid (by subst hH; exact (((Below.refl _ _).alloc (Nat.le_refl _) _).alloc (by simp) _).drew)
  have hZ2 : Hid (H + 2 ≤ ((w1.alloc (.cells (zeros n) 3)).alloc (.cells (zeros n) 3)).drew.heap.size) := Lib.hid (by subst hH; simp)
  have b1' : ((w1.alloc (.cells (zeros n) 3)).alloc (.cells (zeros n) 3)).drew.cell? ⟨w.heap.size, 1, none⟩ = some (.slice a m c) := cell_lt hBD.out hw1 b1
  go_region
  · obtain ⟨W2, hW2⟩ : ∃ W2, ((w1.alloc (.cells (zeros n) 3)).alloc (.cells (zeros n) 3)).drew = W2 := ⟨_, rfl⟩
    rw [hW2] at hI1 hI2 hBD hZ2 b1' ⊢
    clear hW2 hmk b1
    go_wp2
    go_loopw [20] (fun i wr => ∃ k : Nat, k ≤ m ∧ i = .int .i64 k ∧ Hid (IArr wr (H) (cntL n (·.f) (es.take k))) ∧ Hid (IArr wr (H + 1) (cntL n (·.t) (es.take k))) ∧ Hid (Below H w1 wr) ∧ Hid (H + 2 ≤ wr.heap.size)) (fun i _ => m - (RowKit.intOf i).toNat)
    case atStart => exact ⟨0, by omega, rfl, Lib.hid (by rw [List.take_zero, cntL_nil]; exact hI1.out), Lib.hid (by rw [List.take_zero, cntL_nil]; exact hI2.out), hBD, hZ2⟩
    case round =>
      obtain ⟨k, hk, rfl, HA, HD, HB, HZ⟩ := hrel
      by_cases hkm : k < m
      · obtain ⟨b, off, rfl, hc⟩ := HC.out (by omega)
        have he0 : es[k]? = some (es[k]'(by omega)) := List.getElem?_eq_getElem (by omega)
        obtain ⟨⟨f, t, x⟩, he⟩ : ∃ e, es[k]'(by omega) = e := ⟨_, rfl⟩
        rw [he] at he0
        obtain ⟨e1, e2, e3⟩ := hc k _ he0
        simp only at e1 e2 e3
        obtain ⟨n1, n2, n3, n4⟩ := hends.out ⟨f, t, x⟩ (he ▸ List.getElem_mem _)
        simp only at n1 n2 n3 n4
        obtain ⟨F, rfl⟩ : ∃ F : Nat, f = F := ⟨f.toNat, by omega⟩
        obtain ⟨T, rfl⟩ : ∃ T : Nat, t = T := ⟨t.toNat, by omega⟩
        have hbs : b < w.heap.size := World.block_lt_of_cell? w _ e1
        have e1 := cell_lt HB.out (show b < H by omega) (cell_on HB1.out e1)
        have e2 := cell_lt HB.out (show b < H by omega) (cell_on HB1.out e2)
        have e3 := cell_lt HB.out (show b < H by omega) (cell_on HB1.out e3)
        have hF : F < n := by omega
        have hT : T < n := by omega
        obtain ⟨q1, q2⟩ := HA.out F _ (cntL_at hF)
        obtain ⟨r1, r2⟩ := HD.out T _ (cntL_at hT)
        have x1 := cnt_le (·.f) (es.take k) F
        have y1 := cnt_le (·.t) (es.take k) T
        have hlen : (es.take k).length ≤ 16384 := by rw [List.length_take]; omega
        have hs1 : cntL n (·.f) (es.take (k + 1)) = (cntL n (·.f) (es.take k)).set F (cnt (·.f) (es.take k) F + 1) := by
          rw [List.take_succ_eq_append_getElem (by omega), he]; exact cntL_snoc rfl
        have hs2 : cntL n (·.t) (es.take (k + 1)) = (cntL n (·.t) (es.take k)).set T (cnt (·.t) (es.take k) T + 1) := by
          rw [List.take_succ_eq_append_getElem (by omega), he]; exact cntL_snoc rfl
        obtain ⟨X, hX⟩ : ∃ X, cnt (·.f) (es.take k) F = X := ⟨_, rfl⟩
        obtain ⟨Y, hY⟩ : ∃ Y, cnt (·.t) (es.take k) T = Y := ⟨_, rfl⟩
        rw [hX] at q1 x1 hs1
        rw [hY] at r1 y1 hs2
        have x2 : X ≤ 16384 := by omega
        have y2 : Y ≤ 16384 := by omega
        have x0 := x1.1
        have y0 := y1.1
        have HS1 := Lib.hid hs1
        have HS2 := Lib.hid hs2
        have z1 : H < wr.heap.size := by have := HZ.out; omega
        have z2 : H + 1 < wr.heap.size := by have := HZ.out; omega
        have r1' : (wr.setCell ⟨H, F, none⟩ (.int .i64 (X + 1))).cell? ⟨H + 1, T, none⟩ = _ := (World.cell?_setCell_other _ _ _ _ (by simp)).trans r1
        have r2' : (wr.setCell ⟨H, F, none⟩ (.int .i64 (X + 1))).frozen? ⟨H + 1, T, none⟩ = false := by rw [World.frozen?_setCell]; exact r2
        have hs : wr.heap.size ≤ ((wr.setCell ⟨H, F, none⟩ (.int .i64 (X + 1))).setCell ⟨H + 1, T, none⟩ (.int .i64 (Y + 1))).heap.size := by simp
        have hba := (Below.refl _ ((wr.setCell ⟨H, F, none⟩ (.int .i64 (X + 1))).setCell ⟨H + 1, T, none⟩ (.int .i64 (Y + 1)))).alloc (Nat.le_refl _) (.cells #[.int .i64 (F : Int), .int .i64 (T : Int), .int .u64 (x : Int)] 36)
        have HA2 : Hid (IArr _ (H) (cntL n (·.f) (es.take (k + 1)))) := Lib.hid (by rw [HS1.out]; exact IArr.on hba ((HA.out.set _).other _ (by simp)))
        have HD2 : Hid (IArr _ (H + 1) (cntL n (·.t) (es.take (k + 1)))) := Lib.hid (by rw [HS2.out]; exact IArr.on hba ((HD.out.other _ (by simp)).set _))
        have HB2 := Lib.hid (((HB.out.setCell (show H ≤ H by omega) (.int .i64 (X + 1)) (p := ⟨H, F, none⟩)).setCell (show H ≤ H + 1 by omega) (.int .i64 (Y + 1)) (p := ⟨H + 1, T, none⟩)).alloc (show H ≤ _ by simp; omega) (.cells #[.int .i64 (F : Int), .int .i64 (T : Int), .int .u64 (x : Int)] 36))
        clear he he0 hs1 hs2 hX hY hlen x1 y1 hc HA HD HB HC hI1 hI2 hBD r1 r2 b0 HB1 HB0 hH hba hs HZ b1'
        go_wp2
        go_roundw
        case rel => exact ⟨k + 1, by omega, by go_num, HA2, HD2, HB2, Lib.hid (by simp; omega)⟩
        case measure => simp [RowKit.intOf] <;> omega
      · obtain rfl : k = m := by omega
        have HZ := Lib.hid (HB1.out.trans (HB.out.mono (by omega)))
        rw [List.take_of_length_le (by omega)] at HA HD
        have L1 := cntL_len n (·.f) es
        have L2 := cntL_len n (·.t) es
        have G1 := ints_arr HA.out (c := n) (by omega)
        have G2 := ints_arr HD.out (c := n) (by omega)
        rw [L1] at G1
        rw [L2] at G2
        have G1 := Lib.hid G1
        have G2 := Lib.hid G2
        clear L1 L2
        go_wp2
        go_ret2
        exact ⟨_, _, rfl, G1.out, G2.out, HZ.out⟩
  · obtain ⟨W2, hW2⟩ : ∃ W2, ((w1.alloc (.cells (zeros n) 3)).alloc (.cells (zeros n) 3)).drew = W2 := ⟨_, rfl⟩
    rw [hW2] at hI1 hI2 hBD hZ2 b1' ⊢
    clear hW2 hmk b1
    go_wp2
    go_loopw [20] (fun i wr => ∃ k : Nat, k ≤ m ∧ i = .int .i64 k ∧ Hid (IArr wr (H + 1) (cntL n (·.f) (es.take k))) ∧ Hid (IArr wr (H) (cntL n (·.t) (es.take k))) ∧ Hid (Below H w1 wr) ∧ Hid (H + 2 ≤ wr.heap.size)) (fun i _ => m - (RowKit.intOf i).toNat)
    case atStart => exact ⟨0, by omega, rfl, Lib.hid (by rw [List.take_zero, cntL_nil]; exact hI2.out), Lib.hid (by rw [List.take_zero, cntL_nil]; exact hI1.out), hBD, hZ2⟩
    case round =>
      obtain ⟨k, hk, rfl, HA, HD, HB, HZ⟩ := hrel
      by_cases hkm : k < m
      · obtain ⟨b, off, rfl, hc⟩ := HC.out (by omega)
        have he0 : es[k]? = some (es[k]'(by omega)) := List.getElem?_eq_getElem (by omega)
        obtain ⟨⟨f, t, x⟩, he⟩ : ∃ e, es[k]'(by omega) = e := ⟨_, rfl⟩
        rw [he] at he0
        obtain ⟨e1, e2, e3⟩ := hc k _ he0
        simp only at e1 e2 e3
        obtain ⟨n1, n2, n3, n4⟩ := hends.out ⟨f, t, x⟩ (he ▸ List.getElem_mem _)
        simp only at n1 n2 n3 n4
        obtain ⟨F, rfl⟩ : ∃ F : Nat, f = F := ⟨f.toNat, by omega⟩
        obtain ⟨T, rfl⟩ : ∃ T : Nat, t = T := ⟨t.toNat, by omega⟩
        have hbs : b < w.heap.size := World.block_lt_of_cell? w _ e1
        have e1 := cell_lt HB.out (show b < H by omega) (cell_on HB1.out e1)
        have e2 := cell_lt HB.out (show b < H by omega) (cell_on HB1.out e2)
        have e3 := cell_lt HB.out (show b < H by omega) (cell_on HB1.out e3)
        have hF : F < n := by omega
        have hT : T < n := by omega
        obtain ⟨q1, q2⟩ := HA.out F _ (cntL_at hF)
        obtain ⟨r1, r2⟩ := HD.out T _ (cntL_at hT)
        have x1 := cnt_le (·.f) (es.take k) F
        have y1 := cnt_le (·.t) (es.take k) T
        have hlen : (es.take k).length ≤ 16384 := by rw [List.length_take]; omega
        have hs1 : cntL n (·.f) (es.take (k + 1)) = (cntL n (·.f) (es.take k)).set F (cnt (·.f) (es.take k) F + 1) := by
          rw [List.take_succ_eq_append_getElem (by omega), he]; exact cntL_snoc rfl
        have hs2 : cntL n (·.t) (es.take (k + 1)) = (cntL n (·.t) (es.take k)).set T (cnt (·.t) (es.take k) T + 1) := by
          rw [List.take_succ_eq_append_getElem (by omega), he]; exact cntL_snoc rfl
        obtain ⟨X, hX⟩ : ∃ X, cnt (·.f) (es.take k) F = X := ⟨_, rfl⟩
        obtain ⟨Y, hY⟩ : ∃ Y, cnt (·.t) (es.take k) T = Y := ⟨_, rfl⟩
        rw [hX] at q1 x1 hs1
        rw [hY] at r1 y1 hs2
        have x2 : X ≤ 16384 := by omega
        have y2 : Y ≤ 16384 := by omega
        have x0 := x1.1
        have y0 := y1.1
        have HS1 := Lib.hid hs1
        have HS2 := Lib.hid hs2
        have z1 : H < wr.heap.size := by have := HZ.out; omega
        have z2 : H + 1 < wr.heap.size := by have := HZ.out; omega
        have r1' : (wr.setCell ⟨H + 1, F, none⟩ (.int .i64 (X + 1))).cell? ⟨H, T, none⟩ = _ := (World.cell?_setCell_other _ _ _ _ (by simp)).trans r1
        have r2' : (wr.setCell ⟨H + 1, F, none⟩ (.int .i64 (X + 1))).frozen? ⟨H, T, none⟩ = false := by rw [World.frozen?_setCell]; exact r2
        have hs : wr.heap.size ≤ ((wr.setCell ⟨H + 1, F, none⟩ (.int .i64 (X + 1))).setCell ⟨H, T, none⟩ (.int .i64 (Y + 1))).heap.size := by simp
        have hba := (Below.refl _ ((wr.setCell ⟨H + 1, F, none⟩ (.int .i64 (X + 1))).setCell ⟨H, T, none⟩ (.int .i64 (Y + 1)))).alloc (Nat.le_refl _) (.cells #[.int .i64 (F : Int), .int .i64 (T : Int), .int .u64 (x : Int)] 36)
        have HA2 : Hid (IArr _ (H + 1) (cntL n (·.f) (es.take (k + 1)))) := Lib.hid (by rw [HS1.out]; exact IArr.on hba ((HA.out.set _).other _ (by simp)))
        have HD2 : Hid (IArr _ (H) (cntL n (·.t) (es.take (k + 1)))) := Lib.hid (by rw [HS2.out]; exact IArr.on hba ((HD.out.other _ (by simp)).set _))
        have HB2 := Lib.hid (((HB.out.setCell (show H ≤ H + 1 by omega) (.int .i64 (X + 1)) (p := ⟨H + 1, F, none⟩)).setCell (show H ≤ H by omega) (.int .i64 (Y + 1)) (p := ⟨H, T, none⟩)).alloc (show H ≤ _ by simp; omega) (.cells #[.int .i64 (F : Int), .int .i64 (T : Int), .int .u64 (x : Int)] 36))
        clear he he0 hs1 hs2 hX hY hlen x1 y1 hc HA HD HB HC hI1 hI2 hBD r1 r2 b0 HB1 HB0 hH hba hs HZ b1'
        go_wp2
        go_roundw
        case rel => exact ⟨k + 1, by omega, by go_num, HA2, HD2, HB2, Lib.hid (by simp; omega)⟩
        case measure => simp [RowKit.intOf] <;> omega
      · obtain rfl : k = m := by omega
        have HZ := Lib.hid (HB1.out.trans (HB.out.mono (by omega)))
        rw [List.take_of_length_le (by omega)] at HA HD
        have L1 := cntL_len n (·.f) es
        have L2 := cntL_len n (·.t) es
        have G1 := ints_arr HA.out (c := n) (by omega)
        have G2 := ints_arr HD.out (c := n) (by omega)
        rw [L1] at G1
        rw [L2] at G2
        have G1 := Lib.hid G1
        have G2 := Lib.hid G2
        clear L1 L2
        go_wp2
        go_ret2
        exact ⟨_, _, rfl, G1.out, G2.out, HZ.out⟩
theorem pdeg_any (n : Int) {v : Value} {es : List Ed} (w : World) (h : EdgesAt w v es) :
    Calls Try.prog 22 #[.agg #[.int .i64 n, v]] w fun e w' => ∃ v1 v2, e = .returned (.tuple #[v1, v2]) ∧ IntsAt w' v1 (degV (·.f) n es) ∧ IntsAt w' v2 (degV (·.t) n es) ∧ Below w.heap.size w w' := by
  have HV := Lib.hid (fun W (hB : Below w.heap.size w W) => pvalid_any n W (h.on hB))
  obtain ⟨a, c, rfl, g⟩ := edgesAt_flat h
  unfold degV
  by_cases h1 : rightF n es = 0
  · rw [if_pos h1, if_pos h1]
    rw [decide_eq_true h1] at HV
    obtain ⟨r1, r2, r3, r4⟩ := right_ends h1
    obtain ⟨N, rfl⟩ : ∃ N : Nat, n = N := ⟨n.toNat, by omega⟩
    exact pdeg_right N es a es.length c rfl r3 (by omega) (Lib.hid fun e he => ⟨(r4 e he).1, (r4 e he).2.1, (r4 e he).2.2.1, (r4 e he).2.2.2.1⟩) w (Lib.hid g) HV
  · rw [if_neg h1, if_neg h1]
    rw [decide_eq_false h1] at HV
    exact (pdeg_no n _ w HV).mono fun e w' ⟨e1, e2⟩ => ⟨_, _, e1, ints_nil _, ints_nil _, e2⟩
end Go.Proofs.Ytpbjknhoiehonaa
