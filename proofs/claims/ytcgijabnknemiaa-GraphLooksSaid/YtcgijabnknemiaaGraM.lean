import Derived.Test.YtcgijabnknemiaaGraL
import Derived.Test.YtcgijabnknemiaaHeld
set_option linter.unusedVariables false
set_option linter.unusedSimpArgs false
namespace Go.Proofs.Ytcgijabnknemiaa
open Go.RowKit
attribute [local go_sem ↓] Go.wp_at_zero Go.wp_at_succ
set_option maxHeartbeats 8000000 in
theorem rsub_right (n : Nat) (es : List Ed) (a : Option Addr) (m c : Nat) (hm : es.length = m) (hl : m ≤ 16384) (hn0 : 1 ≤ n) (hn : n ≤ 4096) (hends : Hid (∀ e ∈ es, 0 ≤ e.f ∧ e.f < n ∧ 0 ≤ e.t ∧ e.t < n)) (ks : List Bool) (kb ko kc : Nat) (hks : ks.length = n) (w : World)
    (HK : Hid (∀ j x, ks[j]? = some x → w.cell? ⟨kb, ko + j, none⟩ = some (.bool x)))
    (HC : Hid (0 < m → ∃ b off, a = some ⟨b, off, none⟩ ∧ ∀ j e, es[j]? = some e → w.cell? ⟨b, off + j * 3, none⟩ = some (.int .i64 e.f) ∧ w.cell? ⟨b, off + j * 3 + 1, none⟩ = some (.int .i64 e.t) ∧ w.cell? ⟨b, off + j * 3 + 2, none⟩ = some (.int .u64 (e.w : Int))))
    (HR : Hid (∀ W, Below w.heap.size w W → Calls Try.prog 10 #[.agg #[.int .i64 n, .slice a m c]] W fun e w' => e = .returned (.int .i64 0) ∧ Below W.heap.size W w')) :
    Calls Try.prog 26 #[.agg #[.int .i64 n, .slice a m c], .slice (some ⟨kb, ko, none⟩) n kc] w fun e w' => ∃ v1 v2, e = .returned (.tuple #[.agg #[.int .i64 (rk ks n : Nat), v1], v2]) ∧ EdgesAt w' v1 (subE ks es) ∧ IntsAt w' v2 (natI (keptL ks n)) ∧ Below w.heap.size w w' := by
  have HB0 := Lib.hid (((Below.refl w.heap.size w).alloc (Nat.le_refl _) (.cells #[.int .i64 n, .slice a m c] 24)).alloc (by simp) (.cells #[.int .i64 0, .slice none 0 0] 24))
  have hmk := mkInts n (by omega)
  go_enter Try.func26, Try.ntmps26
  go_wp2_with (go_at_call 10; refine (HR.out _ HB0.out).mono ?_; rintro e w1 ⟨rfl, hB⟩; have b0 := cell_on hB (p := ⟨w.heap.size, 0, none⟩) (v := .int .i64 n) (by simp); have b1 := cell_on hB (p := ⟨w.heap.size, 1, none⟩) (v := .slice a m c) (by simp); have c0 := cell_on hB (p := ⟨w.heap.size + 1, 0, none⟩) (v := .int .i64 0) (by simp); have c1 := cell_on hB (p := ⟨w.heap.size + 1, 1, none⟩) (v := .slice none 0 0) (by simp); have f0 := frozen_on hB (p := ⟨w.heap.size + 1, 0, none⟩) (v := .int .i64 0) (by simp) (by simp); have f1 := frozen_on hB (p := ⟨w.heap.size + 1, 1, none⟩) (v := .slice none 0 0) (by simp) (by simp); have HB1 := Lib.hid (on_trans HB0.out hB); clear hB HR)
  obtain ⟨A, hA⟩ : ∃ A, w1.heap.size = A := ⟨_, rfl⟩
  have hwA : w.heap.size + 1 < A := by have := World.block_lt_of_cell? w1 _ c0; rw [hA] at this; exact this
  have hI1 : Hid (IArr (w1.alloc (.cells (zeros n) 3)) A (atL ks n 0)) := Lib.hid (by rw [atL_zero]; exact IArr.zeros fun j hj => by subst hA; simp)
  have hBD : Hid (Below A w1 (w1.alloc (.cells (zeros n) 3))) := Lib.hid (by subst hA; exact (Below.refl _ _).alloc (Nat.le_refl _) _)
  have hS1 : Hid (A + 1 ≤ (w1.alloc (.cells (zeros n) 3)).heap.size) := Lib.hid (by subst hA; simp)
  rw [hA]
  go_loopw [6, 8] (fun u i wr => ∃ k : Nat, k ≤ n ∧ i = .int .i64 k ∧ Hid (wr.ownsRow (A + 1) 3 1 u (rk ks k) (natV (keptL ks k))) ∧ Hid (IArr wr A (atL ks n k)) ∧ Hid (Below A w1 wr) ∧ Hid (A + 1 ≤ wr.heap.size)) (fun _ i _ => n - (RowKit.intOf i).toNat)
  case atStart => exact ⟨0, by omega, rfl, Lib.hid (World.ownsRow_nil _ _ _ _), hI1, hBD, hS1⟩
  case round =>
    obtain ⟨k, hk, rfl, HO, HI, HB, HS⟩ := hrel
    obtain ⟨au, cu, rfl⟩ := slice_form HO.out
    have d0 := cell_lt HB.out (show w.heap.size < A by omega) b0
    by_cases hkn : k < n
    · have hkg : ks[k]? = some (ks[k]'(by omega)) := List.getElem?_eq_getElem (by omega)
      have kc0 := HK.out k _ hkg
      have hkbs : kb < w.heap.size := World.block_lt_of_cell? w _ kc0
      have kc1 := cell_lt HB.out (show kb < A by omega) (cell_on HB1.out kc0)
      have hk0 : (0 : Int) ≤ (k : Int) := Int.natCast_nonneg _
      have hk1 : (k : Int) < (n : Int) := by omega
      obtain ⟨q1, q2⟩ := HI.out k _ (atL_at hkn)
      have kc2 : (wr.setCell ⟨A, k, none⟩ (.int .i64 ((rk ks k : Nat) : Int))).cell? ⟨kb, ko + k, none⟩ = _ := (World.cell?_setCell_other _ _ _ _ (by simp <;> omega)).trans kc1
      have HI2 : Hid (IArr (wr.setCell ⟨A, k, none⟩ (.int .i64 ((rk ks k : Nat) : Int))) A (atL ks n (k + 1))) := Lib.hid (by rw [atL_succ hkn]; exact HI.out.set _)
      have HO2 := Lib.hid (owns_set HO.out (.int .i64 ((rk ks k : Nat) : Int)) (q := ⟨A, k, none⟩) (Nat.lt_succ_self A))
      have HB2 : Hid (Below A w1 (wr.setCell ⟨A, k, none⟩ (.int .i64 ((rk ks k : Nat) : Int)))) := Lib.hid (HB.out.setCell (Nat.le_refl _) _)
      have HS2 : Hid (A + 1 ≤ (wr.setCell ⟨A, k, none⟩ (.int .i64 ((rk ks k : Nat) : Int))).heap.size) := Lib.hid (by have := HS.out; simpa using this)
      obtain ⟨bit, hbit⟩ : ∃ bit, ks[k]'(by omega) = bit := ⟨_, rfl⟩
      rw [hbit] at kc1 kc2 hkg
      clear kc0 hbit HI HO HB HS hI1 hBD hS1 b0 b1 c0 c1 f0 f1 HC HB0 hmk hA
      have hrl : rk ks k ≤ 4096 := Nat.le_trans (rk_le ks k) (by omega)
      cases bit
      · have e1 : rk ks (k + 1) = rk ks k := by unfold rk; rw [keptL_no hkg]
        have HE1 := Lib.hid e1
        have HE2 := Lib.hid (keptL_no hkg)
        clear hkg e1 HK
        go_wp2
        go_roundw
        case rel => exact ⟨k + 1, by omega, by go_num, Lib.hid (by rw [HE1.out, HE2.out]; exact HO2.out), HI2, HB2, HS2⟩
        case measure => simp [RowKit.intOf] <;> omega
      · have e1 : rk ks (k + 1) = rk ks k + 1 := by unfold rk; rw [keptL_yes hkg, List.length_append]; rfl
        have HE1 := Lib.hid e1
        have HE2 := Lib.hid (keptL_yes hkg)
        clear hkg e1 HK
        obtain ⟨i0, hi, hz0, hz1, hz2⟩ := info_parts infoInt
        have hsz : A + 1 ≤ wr.heap.size := by have := HS2.out; simpa using this
        clear kc2
        go_wp2_with (at_builtin; refine wpList_append_lies _ rfl _ _ 33 rfl (A + 1) 3 i0 (.int .i64 0) 1 8 Try.underlying33 hi hz0 hz1 hz2 rfl (by decide) _ _ _ rfl (HO2.out.alloc _) ⟨wr.heap.size, 0, none⟩ 1 1 [.int .i64 (k : Int)] rfl rfl ?c1 ?c2 (by omega) ?c3 ?c4 ?c5 _ rfl ?_)
        case c1 => intro j u hj; match j, hj with | 0, hj => simp at hj; subst hj; show World.cell? _ ⟨wr.heap.size, 0, none⟩ = _; rw [World.cell?_alloc_at _ _ _ _ (by simp)]; rfl
        case c2 => intro u hu; rw [List.mem_singleton] at hu; subst hu; rfl
        case c3 => unfold maxLen; omega
        case c4 => omega
        case c5 => simp; omega
        intro gg cap w2 hown1 hgrow hat hlt2
        rw [← natV_snoc, ← HE2.out, ← HE1.out] at hown1
        have HO3 := Lib.hid hown1
        have HI3 : Hid (IArr w2 A (atL ks n (k + 1))) := Lib.hid fun j x hx => ⟨grow_cell (HO2.out.alloc _) hgrow (Nat.lt_succ_self A) (cell_on ((Below.refl _ _).alloc (Nat.le_refl _) _) (HI2.out j x hx).1), grow_frozen (HO2.out.alloc _) hgrow (Nat.lt_succ_self A) (cell_on ((Below.refl _ _).alloc (Nat.le_refl _) _) (HI2.out j x hx).1) (frozen_on ((Below.refl _ _).alloc (Nat.le_refl _) _) (HI2.out j x hx).1 (HI2.out j x hx).2)⟩
        have HB3 := Lib.hid (below_grow (HB2.out.alloc (by have := HS2.out; omega) _) (Nat.le_succ A) (by simp; omega) (HO2.out.alloc _) hgrow)
        have HS3 : Hid (A + 1 ≤ w2.heap.size) := Lib.hid (by have := hgrow.size; simp at this; omega)
        clear hown1 hgrow hat HI2 HB2 HS2 HO2
        go_wp2
        go_roundw
        case rel => exact ⟨k + 1, by omega, by go_num, by rw [HE1.out] at HO3 ⊢; exact HO3, HI3, HB3, HS3⟩
        case measure => simp [RowKit.intOf] <;> omega
    · obtain rfl : k = n := by omega
      have d1 := cell_lt HB.out (show w.heap.size < A by omega) b1
      have g0 := cell_lt HB.out (show w.heap.size + 1 < A by omega) c0
      have g1 := cell_lt HB.out (show w.heap.size + 1 < A by omega) c1
      have g2 := frozen_lt HB.out (p := ⟨w.heap.size + 1, 0, none⟩) (show w.heap.size + 1 < A by omega) f0
      have g3 := frozen_lt HB.out (p := ⟨w.heap.size + 1, 1, none⟩) (show w.heap.size + 1 < A by omega) f1
      have HBw := Lib.hid (HB1.out.trans (HB.out.mono (by omega)))
      have hrl : rk ks k ≤ 4096 := Nat.le_trans (rk_le ks k) (by omega)
      obtain ⟨B, hB⟩ : ∃ B, wr.heap.size = B := ⟨_, rfl⟩
      have hAB : A < B := by have := HS.out; omega
      have HS0 : Hid ((wr.alloc (.cells #[.int .i64 ((rk ks k : Nat) : Int), .slice none 0 0] 24)).cell? ⟨B, 0, none⟩ = some (.int .i64 ((rk ks k : Nat) : Int)) ∧ (wr.alloc (.cells #[.int .i64 ((rk ks k : Nat) : Int), .slice none 0 0] 24)).cell? ⟨B, 1, none⟩ = some (.slice none 0 0) ∧ (wr.alloc (.cells #[.int .i64 ((rk ks k : Nat) : Int), .slice none 0 0] 24)).frozen? ⟨B, 1, none⟩ = false) := Lib.hid (by subst hB; simp)
      have HL0 : Hid (Below B wr (wr.alloc (.cells #[.int .i64 ((rk ks k : Nat) : Int), .slice none 0 0] 24))) := Lib.hid (by subst hB; exact (Below.refl _ _).alloc (Nat.le_refl _) _)
      have HZ0 : Hid (B + 1 ≤ (wr.alloc (.cells #[.int .i64 ((rk ks k : Nat) : Int), .slice none 0 0] 24)).heap.size) := Lib.hid (by subst hB; simp)
      have HKo : Hid (∀ j x, ks[j]? = some x → wr.cell? ⟨kb, ko + j, none⟩ = some (.bool x)) := Lib.hid fun j x hx => cell_on HBw.out (HK.out j x hx)
      have HCo : Hid (0 < m → ∃ b off, a = some ⟨b, off, none⟩ ∧ ∀ j e, es[j]? = some e → wr.cell? ⟨b, off + j * 3, none⟩ = some (.int .i64 e.f) ∧ wr.cell? ⟨b, off + j * 3 + 1, none⟩ = some (.int .i64 e.t) ∧ wr.cell? ⟨b, off + j * 3 + 2, none⟩ = some (.int .u64 (e.w : Int))) := Lib.hid fun h => by
        obtain ⟨b, off, h1, h2⟩ := HC.out h
        exact ⟨b, off, h1, fun j e he => ⟨cell_on HBw.out (h2 j e he).1, cell_on HBw.out (h2 j e he).2.1, cell_on HBw.out (h2 j e he).2.2⟩⟩
      have hkb : kb < B := by
        have := World.block_lt_of_cell? wr _ (HKo.out 0 _ (List.getElem?_eq_getElem (by omega)))
        rw [hB] at this
        exact this
      clear hI1 hBD hS1 b0 b1 c0 c1 f0 f1 hmk HB0 HC HK HB1
      obtain ⟨N, rfl⟩ : ∃ N : Nat, N = k := ⟨_, rfl⟩
      obtain ⟨wo, rfl⟩ : ∃ wo : World, wo = wr := ⟨_, rfl⟩
      go_wp2
      go_loopw [10] (fun i wr => ∃ (k : Nat) (v : Value), k ≤ m ∧ i = .int .i64 k ∧ Hid (wr.cell? ⟨B, 0, none⟩ = some (.int .i64 ((rk ks N : Nat) : Int)) ∧ wr.cell? ⟨B, 1, none⟩ = some v ∧ wr.frozen? ⟨B, 1, none⟩ = false) ∧ Hid (wr.ownsRow (B + 1) 46 3 v (subE ks (es.take k)).length (flat (subE ks (es.take k)))) ∧ Hid (Below B wo wr) ∧ Hid (B + 1 ≤ wr.heap.size)) (fun i _ => m - (RowKit.intOf i).toNat)
      case atStart => exact ⟨0, _, by omega, rfl, HS0, Lib.hid (World.ownsRow_nil _ _ _ _), HL0, HZ0⟩
      case round =>
        obtain ⟨k, v, hk, rfl, HS, HO2, HB2, HZ⟩ := hrel
        have e1 := cell_lt HB2.out (show w.heap.size < B by omega) d1
        clear HS0 HL0 HZ0
        by_cases hkm : k < m
        · obtain ⟨b, off, rfl, hc⟩ := HCo.out (by omega)
          have he0 : es[k]? = some (es[k]'(by omega)) := List.getElem?_eq_getElem (by omega)
          obtain ⟨⟨f, t, x⟩, he⟩ : ∃ e, es[k]'(by omega) = e := ⟨_, rfl⟩
          rw [he] at he0
          obtain ⟨e2, e3, e4⟩ := hc k _ he0
          simp only at e2 e3 e4
          obtain ⟨n1, n2, n3, n4⟩ := hends.out ⟨f, t, x⟩ (he ▸ List.getElem_mem _)
          simp only at n1 n2 n3 n4
          obtain ⟨F, rfl⟩ : ∃ F : Nat, f = F := ⟨f.toNat, by omega⟩
          obtain ⟨T, rfl⟩ : ∃ T : Nat, t = T := ⟨t.toNat, by omega⟩
          have hbs : b < B := by have := World.block_lt_of_cell? wo _ e2; rw [hB] at this; exact this
          have e2 := cell_lt HB2.out (show b < B from hbs) e2
          have e3 := cell_lt HB2.out (show b < B from hbs) e3
          have e4 := cell_lt HB2.out (show b < B from hbs) e4
          have hF : F < N := by omega
          have hT : T < N := by omega
          have hkF : ks[F]? = some (ks[F]'(by omega)) := List.getElem?_eq_getElem (by omega)
          have hkT : ks[T]? = some (ks[T]'(by omega)) := List.getElem?_eq_getElem (by omega)
          obtain ⟨bF, hbF⟩ : ∃ bF, ks[F]'(by omega) = bF := ⟨_, rfl⟩
          obtain ⟨bT, hbT⟩ : ∃ bT, ks[T]'(by omega) = bT := ⟨_, rfl⟩
          rw [hbF] at hkF
          rw [hbT] at hkT
          have hba := (Below.refl wr.heap.size wr).alloc (Nat.le_refl _) (.cells #[.int .i64 (F : Int), .int .i64 (T : Int), .int .u64 (x : Int)] 46)
          have k1 := cell_on hba (cell_lt HB2.out (show kb < B from hkb) (HKo.out F _ hkF))
          have k2 := cell_on hba (cell_lt HB2.out (show kb < B from hkb) (HKo.out T _ hkT))
          have hst : staysB ks ⟨F, T, x⟩ = (bF && bT) := by
            show (ks.getD (F : Int).toNat false && ks.getD (T : Int).toNat false) = _
            rw [Int.toNat_natCast, Int.toNat_natCast, List.getD_eq_getElem?_getD, List.getD_eq_getElem?_getD, hkF, hkT]
            rfl
          have htk : es.take (k + 1) = es.take k ++ [⟨F, T, x⟩] := by rw [List.take_succ_eq_append_getElem (by omega), he]
          have hlen : (subE ks (es.take k)).length ≤ 16384 := Nat.le_trans (subE_len _ _) (by rw [List.length_take]; omega)
          have a1 : wo.cell? ⟨A, F, none⟩ = some (.int .i64 ((rk ks F : Nat) : Int)) := by have h := (HI.out F _ (atL_at hF)).1; rw [if_pos hF] at h; exact h
          have a2 : wo.cell? ⟨A, T, none⟩ = some (.int .i64 ((rk ks T : Nat) : Int)) := by have h := (HI.out T _ (atL_at hT)).1; rw [if_pos hT] at h; exact h
          have hstep : (bF && bT) = false → subE ks (es.take (k + 1)) = subE ks (es.take k) := fun h => by rw [htk]; exact subE_no (by rw [hst]; exact h)
          have hstep2 : (bF && bT) = true → subE ks (es.take (k + 1)) = subE ks (es.take k) ++ [⟨(rk ks F : Nat), (rk ks T : Nat), x⟩] := fun h => by rw [htk]; exact subE_yes (by rw [hst]; exact h)
          have HS3 : Hid ((wr.alloc (.cells #[.int .i64 (F : Int), .int .i64 (T : Int), .int .u64 (x : Int)] 46)).cell? ⟨B, 0, none⟩ = some (.int .i64 ((rk ks N : Nat) : Int)) ∧ (wr.alloc (.cells #[.int .i64 (F : Int), .int .i64 (T : Int), .int .u64 (x : Int)] 46)).cell? ⟨B, 1, none⟩ = some v ∧ (wr.alloc (.cells #[.int .i64 (F : Int), .int .i64 (T : Int), .int .u64 (x : Int)] 46)).frozen? ⟨B, 1, none⟩ = false) := Lib.hid ⟨cell_on hba HS.out.1, cell_on hba HS.out.2.1, frozen_on hba HS.out.2.1 HS.out.2.2⟩
          have HB3 := Lib.hid (HB2.out.alloc (show B ≤ wr.heap.size by have := HZ.out; omega) (.cells #[.int .i64 (F : Int), .int .i64 (T : Int), .int .u64 (x : Int)] 46))
          have HZ3 : Hid (B + 1 ≤ (wr.alloc (.cells #[.int .i64 (F : Int), .int .i64 (T : Int), .int .u64 (x : Int)] 46)).heap.size) := Lib.hid (by have := HZ.out; simp; omega)
          clear hbF hbT hkF hkT he he0 hst htk hc HKo HCo
          cases bF
          · have HE := Lib.hid (hstep rfl)
            clear hstep hstep2 hba a1 a2
            go_wp2
            go_roundw
            case rel => exact ⟨k + 1, v, by omega, by go_num, HS3, Lib.hid (by rw [HE.out]; exact HO2.out.alloc _), HB3, HZ3⟩
            case measure => simp [RowKit.intOf] <;> omega
          · cases bT
            · have HE := Lib.hid (hstep rfl)
              clear hstep hstep2 hba a1 a2
              go_wp2
              go_roundw
              case rel => exact ⟨k + 1, v, by omega, by go_num, HS3, Lib.hid (by rw [HE.out]; exact HO2.out.alloc _), HB3, HZ3⟩
              case measure => simp [RowKit.intOf] <;> omega
            · have HE := Lib.hid (hstep2 rfl)
              clear hstep hstep2
              obtain ⟨X, hX⟩ : ∃ X : Int, ((rk ks F : Nat) : Int) = X := ⟨_, rfl⟩
              obtain ⟨Y, hY⟩ : ∃ Y : Int, ((rk ks T : Nat) : Int) = Y := ⟨_, rfl⟩
              rw [hX] at a1 HE
              rw [hY] at a2 HE
              clear hX hY
              obtain ⟨i0, hi, hz0, hz1, hz2⟩ := info_parts infoE
              have hsz := HZ.out
              have hbb := hba.trans (((Below.refl (wr.alloc (.cells #[.int .i64 (F : Int), .int .i64 (T : Int), .int .u64 (x : Int)] 46)).heap.size (wr.alloc (.cells #[.int .i64 (F : Int), .int .i64 (T : Int), .int .u64 (x : Int)] 46))).alloc (Nat.le_refl _) (.cells #[.int .i64 X, .int .i64 Y, .int .u64 (x : Int)] 46)).mono (by simp))
              have a1 := cell_lt HB2.out (show A < B from hAB) a1
              have a2 := cell_lt HB2.out (show A < B from hAB) a2
              have Q1 := Lib.hid (cell_on hba HS.out.2.1)
              have Q2 := Lib.hid (cell_on hba a1)
              have Q3 := Lib.hid (cell_on hba a2)
              have G1 := Lib.hid (cell_on hbb.drew HS.out.2.1)
              have G0 := Lib.hid (frozen_on hbb.drew HS.out.2.1 HS.out.2.2)
              have G2 := Lib.hid (cell_on hbb.drew a1)
              have G3 := Lib.hid (cell_on hbb.drew a2)
              have G4 : Hid (((wr.alloc (.cells #[.int .i64 (F : Int), .int .i64 (T : Int), .int .u64 (x : Int)] 46)).alloc (.cells #[.int .i64 X, .int .i64 Y, .int .u64 (x : Int)] 46)).drew.cell? ⟨wr.heap.size, 0, none⟩ = some (.int .i64 (F : Int))) := Lib.hid (by simp)
              have G5 : Hid (((wr.alloc (.cells #[.int .i64 (F : Int), .int .i64 (T : Int), .int .u64 (x : Int)] 46)).alloc (.cells #[.int .i64 X, .int .i64 Y, .int .u64 (x : Int)] 46)).drew.cell? ⟨wr.heap.size, 1, none⟩ = some (.int .i64 (T : Int))) := Lib.hid (by simp)
              have G6 : Hid (((wr.alloc (.cells #[.int .i64 (F : Int), .int .i64 (T : Int), .int .u64 (x : Int)] 46)).alloc (.cells #[.int .i64 X, .int .i64 Y, .int .u64 (x : Int)] 46)).drew.cell? ⟨wr.heap.size, 2, none⟩ = some (.int .u64 (x : Int))) := Lib.hid (by simp)
              have G7 := Lib.hid (cell_on hbb.drew HS.out.1)
              have HOd := Lib.hid (((HO2.out.alloc (.cells #[.int .i64 (F : Int), .int .i64 (T : Int), .int .u64 (x : Int)] 46)).alloc (.cells #[.int .i64 X, .int .i64 Y, .int .u64 (x : Int)] 46)).drew)
              have HNB : Hid (((wr.alloc (.cells #[.int .i64 (F : Int), .int .i64 (T : Int), .int .u64 (x : Int)] 46)).alloc (.cells #[.int .i64 X, .int .i64 Y, .int .u64 (x : Int)] 46)).drew.heap[wr.heap.size + 1]? = some (.cells #[.int .i64 X, .int .i64 Y, .int .u64 (x : Int)] 46)) := Lib.hid (heap_alloc2_new wr _ _)
              have HEo : Hid (some wr.heap.size ≠ v.ownBlock) := Lib.hid fun e => by have := (HO2.out.lt _ e.symm).2; omega
              have HBd := Lib.hid (HB2.out.trans (hbb.drew.mono (show B ≤ wr.heap.size by omega)))
              have hX0 : (0 : Int) ≤ (F : Int) := Int.natCast_nonneg _
              have hY0 : (0 : Int) ≤ (T : Int) := Int.natCast_nonneg _
              have hX1 : (F : Int) < (N : Int) := by omega
              have hY1 : (T : Int) < (N : Int) := by omega
              have hBw : B ≠ wr.heap.size := by omega
              clear hba hbb
              go_wp2
              refine region_till (fun w' => w'.cell? ⟨B, 1, none⟩ = some v ∧ w'.cell? ⟨wr.heap.size, 0, none⟩ = some (.int .i64 (F : Int)) ∧ w'.cell? ⟨wr.heap.size, 1, none⟩ = some (.int .i64 (T : Int)) ∧ w'.cell? ⟨wr.heap.size, 2, none⟩ = some (.int .u64 (x : Int)) ∧ w'.cell? ⟨A, F, none⟩ = some (.int .i64 X) ∧ w'.cell? ⟨A, T, none⟩ = some (.int .i64 Y)) 18 (by kernel_rfl) ⟨Q1.out, by simp, by simp, by simp, Q2.out, Q3.out⟩ (fun hS0 => ?_)
              refine wpTill_take (i := 0) (v := .pointer (some ⟨B, 1, none⟩)) rfl (by kernel_rfl) (by kernel_rfl) (by kernel_rfl) (by kernel_rfl) (by kernel_rfl) (fun _ _ _ h => h) (Or.inl ⟨by kernel_rfl, fun w' hS => by obtain ⟨s0, s1, s2, s3, s4, s5⟩ := hS; go_simp⟩) hS0 ?_
              simp only [Act.put, List.setIfInBounds_toArray, List.set_cons_zero, List.set_cons_succ]
              refine wpTill_take (i := 1) (v := v) rfl (by kernel_rfl) (by kernel_rfl) (by kernel_rfl) (by kernel_rfl) (by kernel_rfl) (fun _ _ _ h => h) (Or.inl ⟨by kernel_rfl, fun w' hS => by obtain ⟨s0, s1, s2, s3, s4, s5⟩ := hS; go_simp⟩) hS0 ?_
              simp only [Act.put, List.setIfInBounds_toArray, List.set_cons_zero, List.set_cons_succ]
              refine wpTill_take (i := 2) (v := .slice (some ⟨A, 0, none⟩) N N) rfl (by kernel_rfl) (by kernel_rfl) (by kernel_rfl) (by kernel_rfl) (by kernel_rfl) (fun _ _ _ h => h) (Or.inl ⟨by kernel_rfl, fun w' hS => by obtain ⟨s0, s1, s2, s3, s4, s5⟩ := hS; go_simp⟩) hS0 ?_
              simp only [Act.put, List.setIfInBounds_toArray, List.set_cons_zero, List.set_cons_succ]
              refine wpTill_take (i := 3) (v := .pointer (some ⟨wr.heap.size, 0, none⟩)) rfl (by kernel_rfl) (by kernel_rfl) (by kernel_rfl) (by kernel_rfl) (by kernel_rfl) (fun _ _ _ h => h) (Or.inl ⟨by kernel_rfl, fun w' hS => by obtain ⟨s0, s1, s2, s3, s4, s5⟩ := hS; go_simp⟩) hS0 ?_
              simp only [Act.put, List.setIfInBounds_toArray, List.set_cons_zero, List.set_cons_succ]
              refine wpTill_take (i := 4) (v := .int .i64 (F : Int)) rfl (by kernel_rfl) (by kernel_rfl) (by kernel_rfl) (by kernel_rfl) (by kernel_rfl) (fun _ _ _ h => h) (Or.inl ⟨by kernel_rfl, fun w' hS => by obtain ⟨s0, s1, s2, s3, s4, s5⟩ := hS; go_simp⟩) hS0 ?_
              simp only [Act.put, List.setIfInBounds_toArray, List.set_cons_zero, List.set_cons_succ]
              refine wpTill_take (i := 5) (v := .pointer (some ⟨A, F, none⟩)) rfl (by kernel_rfl) (by kernel_rfl) (by kernel_rfl) (by kernel_rfl) (by kernel_rfl) (fun _ _ _ h => h) (Or.inl ⟨by kernel_rfl, fun w' hS => by obtain ⟨s0, s1, s2, s3, s4, s5⟩ := hS; go_simp⟩) hS0 ?_
              simp only [Act.put, List.setIfInBounds_toArray, List.set_cons_zero, List.set_cons_succ]
              refine wpTill_take (i := 6) (v := .int .i64 X) rfl (by kernel_rfl) (by kernel_rfl) (by kernel_rfl) (by kernel_rfl) (by kernel_rfl) (fun _ _ _ h => h) (Or.inl ⟨by kernel_rfl, fun w' hS => by obtain ⟨s0, s1, s2, s3, s4, s5⟩ := hS; go_simp⟩) hS0 ?_
              simp only [Act.put, List.setIfInBounds_toArray, List.set_cons_zero, List.set_cons_succ]
              refine wpTill_take (i := 7) (v := .slice (some ⟨A, 0, none⟩) N N) rfl (by kernel_rfl) (by kernel_rfl) (by kernel_rfl) (by kernel_rfl) (by kernel_rfl) (fun _ _ _ h => h) (Or.inl ⟨by kernel_rfl, fun w' hS => by obtain ⟨s0, s1, s2, s3, s4, s5⟩ := hS; go_simp⟩) hS0 ?_
              simp only [Act.put, List.setIfInBounds_toArray, List.set_cons_zero, List.set_cons_succ]
              refine wpTill_take (i := 8) (v := .pointer (some ⟨wr.heap.size, 1, none⟩)) rfl (by kernel_rfl) (by kernel_rfl) (by kernel_rfl) (by kernel_rfl) (by kernel_rfl) (fun _ _ _ h => h) (Or.inl ⟨by kernel_rfl, fun w' hS => by obtain ⟨s0, s1, s2, s3, s4, s5⟩ := hS; go_simp⟩) hS0 ?_
              simp only [Act.put, List.setIfInBounds_toArray, List.set_cons_zero, List.set_cons_succ]
              refine wpTill_take (i := 9) (v := .int .i64 (T : Int)) rfl (by kernel_rfl) (by kernel_rfl) (by kernel_rfl) (by kernel_rfl) (by kernel_rfl) (fun _ _ _ h => h) (Or.inl ⟨by kernel_rfl, fun w' hS => by obtain ⟨s0, s1, s2, s3, s4, s5⟩ := hS; go_simp⟩) hS0 ?_
              simp only [Act.put, List.setIfInBounds_toArray, List.set_cons_zero, List.set_cons_succ]
              refine wpTill_take (i := 10) (v := .pointer (some ⟨A, T, none⟩)) rfl (by kernel_rfl) (by kernel_rfl) (by kernel_rfl) (by kernel_rfl) (by kernel_rfl) (fun _ _ _ h => h) (Or.inl ⟨by kernel_rfl, fun w' hS => by obtain ⟨s0, s1, s2, s3, s4, s5⟩ := hS; go_simp⟩) hS0 ?_
              simp only [Act.put, List.setIfInBounds_toArray, List.set_cons_zero, List.set_cons_succ]
              refine wpTill_take (i := 11) (v := .int .i64 Y) rfl (by kernel_rfl) (by kernel_rfl) (by kernel_rfl) (by kernel_rfl) (by kernel_rfl) (fun _ _ _ h => h) (Or.inl ⟨by kernel_rfl, fun w' hS => by obtain ⟨s0, s1, s2, s3, s4, s5⟩ := hS; go_simp⟩) hS0 ?_
              simp only [Act.put, List.setIfInBounds_toArray, List.set_cons_zero, List.set_cons_succ]
              refine wpTill_take (i := 12) (v := .pointer (some ⟨wr.heap.size, 2, none⟩)) rfl (by kernel_rfl) (by kernel_rfl) (by kernel_rfl) (by kernel_rfl) (by kernel_rfl) (fun _ _ _ h => h) (Or.inl ⟨by kernel_rfl, fun w' hS => by obtain ⟨s0, s1, s2, s3, s4, s5⟩ := hS; go_simp⟩) hS0 ?_
              simp only [Act.put, List.setIfInBounds_toArray, List.set_cons_zero, List.set_cons_succ]
              refine wpTill_take (i := 13) (v := .int .u64 (x : Int)) rfl (by kernel_rfl) (by kernel_rfl) (by kernel_rfl) (by kernel_rfl) (by kernel_rfl) (fun _ _ _ h => h) (Or.inl ⟨by kernel_rfl, fun w' hS => by obtain ⟨s0, s1, s2, s3, s4, s5⟩ := hS; go_simp⟩) hS0 ?_
              simp only [Act.put, List.setIfInBounds_toArray, List.set_cons_zero, List.set_cons_succ]
              refine wpTill_take (i := 14) (v := .agg #[.int .i64 X, .int .i64 Y, .int .u64 (x : Int)]) rfl (by kernel_rfl) (by kernel_rfl) (by kernel_rfl) (by kernel_rfl) (by kernel_rfl) (fun _ _ _ h => h) (Or.inl ⟨by kernel_rfl, fun w' hS => by obtain ⟨s0, s1, s2, s3, s4, s5⟩ := hS; go_simp⟩) hS0 ?_
              simp only [Act.put, List.setIfInBounds_toArray, List.set_cons_zero, List.set_cons_succ]
              refine wpTill_one (i := 15) (by kernel_rfl) rfl (fun K hK => ?_)
              have HK := Lib.hid hK.out
              clear hK
              go_simp
              refine HK.out _ _ (fun _ => ⟨G1.out, G4.out, G5.out, G6.out, G2.out, G3.out⟩) (fun hS1 => ?_)
              clear HK
              refine wpTill_one (i := 16) (by kernel_rfl) rfl (fun K hK => ?_)
              have HK := Lib.hid hK.out
              clear hK
              refine step_append_lies _ (by rfl) _ _ _ (by rfl) (B + 1) 46 i0 _ 3 24 Try.underlying22 hi hz0 hz1 hz2 rfl (by omega) v _ _ (by rfl) HOd.out ⟨wr.heap.size + 1, 0, none⟩ 1 1 [.int .i64 X, .int .i64 Y, .int .u64 (x : Int)] (by rfl) (by rfl) (World.news_of_block (cs := #[.int .i64 X, .int .i64 Y, .int .u64 (x : Int)]) (t := 46) (fr := (0, 0)) HNB.out) (by simp [Value.oneCell']) (by omega) (by unfold maxLen; omega) (by omega) (by simp; omega) (wr.heap.size + 2) (by simp) ?_
              intro gg cap w2 hown1 hgrow hat hlt2
              have q1 := grow_cell HOd.out hgrow (show B < B + 1 by omega) G1.out
              have q2 := grow_frozen HOd.out hgrow (show B < B + 1 by omega) G1.out G0.out
              refine HK.out _ _ (fun _ => ⟨q1, far_cell hgrow HEo.out G4.out, far_cell hgrow HEo.out G5.out, far_cell hgrow HEo.out G6.out, grow_cell HOd.out hgrow (show A < B + 1 by omega) G2.out, grow_cell HOd.out hgrow (show A < B + 1 by omega) G3.out⟩) (fun hS2 => ?_)
              clear HK
              refine wpTill_take (i := 17) (v := .pointer (some ⟨B, 1, none⟩)) rfl (by kernel_rfl) (by kernel_rfl) (by kernel_rfl) (by kernel_rfl) (by kernel_rfl) (fun _ _ _ h => h) (Or.inl ⟨by kernel_rfl, fun w' hS => by obtain ⟨s0, s1, s2, s3, s4, s5⟩ := hS; go_simp⟩) (hS2 (by decide)) ?_
              simp only [Act.put, List.setIfInBounds_toArray, List.set_cons_zero, List.set_cons_succ]
              refine wpTill_one (i := 18) (by kernel_rfl) rfl (fun K hK => ?_)
              have HK := Lib.hid hK.out
              clear hK
              go_simp
              refine HK.out _ _ (fun h => absurd rfl h) (fun _ => ?_)
              clear HK
              refine wpTill_done (by kernel_rfl) ?_ _
              have Z1 := Lib.hid (grow_cell HOd.out hgrow (show B < B + 1 by omega) G7.out)
              have Z2 := Lib.hid (below_grow HBd.out (show B ≤ B + 1 by omega) (by simp; omega) HOd.out hgrow)
              have Z3 := Lib.hid hgrow.size
              have Z4 := Lib.hid q1
              have Z5 := Lib.hid q2
              clear q1 q2 hgrow
              have HO9 := Lib.hid hown1
              clear hown1
              go_wp2
              go_roundw
              case rel =>
                refine ⟨k + 1, .slice (some ⟨gg, 0, none⟩) ((subE ks (es.take k)).length + 1) cap, by omega, by go_num,
                  Lib.hid ⟨by rw [World.cell?_setCell_other _ _ _ _ (by simp)]; exact Z1.out, World.cell?_setCell_same _ _ _ Z4.out, by rw [World.frozen?_setCell]; exact Z5.out⟩,
                  Lib.hid ?_, Lib.hid (Z2.out.setCell (Nat.le_refl _) _), Lib.hid (by have := Z3.out; simp at this ⊢; omega)⟩
                rw [HE.out, flat_snoc, List.length_append]
                exact owns_set HO9.out _ (show B < B + 1 by omega)
              case measure => simp [RowKit.intOf] <;> omega
        · obtain rfl : k = m := by omega
          rw [List.take_of_length_le (by omega)] at HO2
          obtain ⟨av, cv, rfl⟩ := slice_form HO2.out
          have s0 := HS.out.1
          have s1 := HS.out.2.1
          have g0 := cell_lt HB2.out (show w.heap.size + 1 < B by omega) g0
          have g1 := cell_lt HB2.out (show w.heap.size + 1 < B by omega) g1
          have g2 := frozen_lt HB2.out (p := ⟨w.heap.size + 1, 0, none⟩) (show w.heap.size + 1 < B by omega) g2
          have g3 := frozen_lt HB2.out (p := ⟨w.heap.size + 1, 1, none⟩) (show w.heap.size + 1 < B by omega) g3
          have HZ9 : Hid (Below w.heap.size w wr) := Lib.hid (HBw.out.trans (HB2.out.mono (by omega)))
          have HW9 := Lib.hid (owns_below HO.out HB2.out (Nat.le_of_eq hB))
          clear HO HI HS HKo HCo
          go_wp2
          have h2 := set2_cells g0 g1 (.int .i64 ((rk ks N : Nat) : Int)) (.slice av (subE ks es).length cv)
          have B9 := (HZ9.out.setCell (p := ⟨w.heap.size + 1, 0, none⟩) (by simp) (.int .i64 ((rk ks N : Nat) : Int))).setCell (p := ⟨w.heap.size + 1, 1, none⟩) (by simp) (.slice av (subE ks es).length cv)
          refine bodyPost_ret_by (resGT rfl _ rfl h2.1 h2.2) rfl ⟨_, _, rfl, edges_own (owns_set (owns_set HO2.out _ (show w.heap.size + 1 < B + 1 by omega)) _ (show w.heap.size + 1 < B + 1 by omega)), ints_own (owns_set (owns_set HW9.out _ (show w.heap.size + 1 < A + 1 by omega)) _ (show w.heap.size + 1 < A + 1 by omega)), B9⟩
end Go.Proofs.Ytcgijabnknemiaa
