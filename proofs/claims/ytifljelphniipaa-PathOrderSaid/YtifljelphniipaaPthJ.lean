import Derived.Test.YtifljelphniipaaPthI
set_option linter.unusedVariables false
set_option linter.unusedSimpArgs false
namespace Go.Proofs.Ytifljelphniipaa
open Go.RowKit
attribute [local go_sem ↓] Go.wp_at_zero Go.wp_at_succ
set_option maxHeartbeats 4000000 in
theorem pjoin_some (xs ys : List Int) (a1 a2 : Option Addr) (m1 m2 c1 c2 : Nat) (h1 : xs.length = m1) (h2 : ys.length = m2) (l1 : m1 ≤ 10000) (l2 : m2 ≤ 10000) (w : World) (HX : Hid (Ints xs a1 m1 w)) (HY : Hid (Ints ys a2 m2 w)) :
    Calls Try.prog 29 #[.slice a1 m1 c1, .slice a2 m2 c2] w fun e w' => ∃ v, e = .returned v ∧ IntsAt w' v (xs ++ ys) ∧ Below w.heap.size w w' := by
  have l3 : (m1 : Int) ≤ 10000 := by omega
  have l4 : (m2 : Int) ≤ 10000 := by omega
  have HB0 := Lib.hid (Below.refl w.heap.size w)
  have HO0 : Hid (w.ownsRow w.heap.size 3 1 (.slice none 0 0) 0 (intV (xs.take 0))) := Lib.hid (World.ownsRow_nil _ _ _ _)
  obtain ⟨i0, hi, hz0, hz1, hz2⟩ := info_parts infoInt
  go_enter Try.func29, Try.ntmps29
  go_wp2
  go_loopw [5, 6] (fun v i wr => ∃ k : Nat, k ≤ m1 ∧ i = .int .i64 k ∧ Hid (wr.ownsRow w.heap.size 3 1 v (k) (intV (xs.take k))) ∧ Hid (Below w.heap.size w wr)) (fun _ i _ => m1 - (RowKit.intOf i).toNat)
  case atStart => exact ⟨0, by omega, rfl, HO0, HB0⟩
  case round =>
    obtain ⟨k, hk, rfl, HO, HB⟩ := hrel
    obtain ⟨au, cu, rfl⟩ := slice_form HO.out
    by_cases hkm : k < m1
    · obtain ⟨bl, ol, rfl, hcl⟩ := HX.out (by omega)
      have hx0 : xs[k]? = some (xs[k]'(by omega)) := List.getElem?_eq_getElem (by omega)
      obtain ⟨x, hx⟩ : ∃ x, xs[k]'(by omega) = x := ⟨_, rfl⟩
      rw [hx] at hx0
      have e4' := hcl k _ hx0
      have hPb : bl < w.heap.size := World.block_lt_of_cell? w _ e4'
      have e4 := cell_on HB.out e4'
      have hi0 : (0 : Int) ≤ (k : Int) := Int.natCast_nonneg _
      have hi1 : (k : Int) < (m1 : Int) := by omega
      have HN : Hid (xs.take (k + 1) = (xs.take k) ++ [x]) := Lib.hid (by rw [← hx, List.take_succ_eq_append_getElem (by omega)])
      have hba := (Below.refl wr.heap.size wr).alloc (Nat.le_refl _) (.cells #[.int .i64 x] 3)
      have HBd := Lib.hid (HB.out.trans (hba.mono HB.out.size))
      have HOd := Lib.hid ((HO.out.alloc (.cells #[.int .i64 x] 3)))
      have hsz := HB.out.size
      clear hba hx hx0 hcl HX e4'
      go_wp2_with (first | (at_builtin; refine wpList_append_lies _ rfl _ _ 25 rfl w.heap.size 3 i0 (.int .i64 0) 1 8 Try.underlying25 hi hz0 hz1 hz2 rfl (by decide) _ _ _ rfl (HO.out.alloc _) ⟨wr.heap.size, 0, none⟩ 1 1 [.int .i64 x] rfl rfl ?c1 ?c2 (by omega) ?c3 ?c4 ?c5 _ rfl ?_))
      case c1 => exact World.news_of_block (cs := #[.int .i64 x]) (t := 3) (fr := (0, 0)) (heap_alloc_new wr _)
      case c2 => intro u hu; rw [List.mem_singleton] at hu; subst hu; rfl
      case c3 => unfold maxLen; omega
      case c4 => omega
      case c5 => simp; omega
      intro gg2 cap2 w5 hown hgrow hat hlt
      have HO5 : Hid (w5.ownsRow w.heap.size 3 1 (.slice (some ⟨gg2, 0, none⟩) (k + 1) cap2) (k + 1) (intV (xs.take (k + 1)))) := Lib.hid (by rw [HN.out, intV_snoc]; exact hown)
      have HB5 := Lib.hid (below_growE HBd.out (Nat.le_refl _) (by simp; omega) HOd.out hgrow)
      clear hown hgrow hat hlt HO HB HBd HOd e4
      go_wp2
      go_roundw
      case rel => exact ⟨k + 1, by omega, by go_num, HO5, HB5⟩
      case measure => simp [RowKit.intOf] <;> omega
    · obtain rfl : m1 = k := by omega
      have HO1 : Hid (wr.ownsRow w.heap.size 3 1 (.slice au m1 cu) (m1 + 0) (intV (xs ++ ys.take 0))) := Lib.hid (by
        have h := HO.out
        rw [List.take_of_length_le (by omega)] at h
        rw [List.take_zero, List.append_nil]
        exact h)
      have HB1 := HB
      clear HO HB HO0 HB0 HX
      go_wp2
      go_loopw [5, 7] (fun v i wr => ∃ k : Nat, k ≤ m2 ∧ i = .int .i64 k ∧ Hid (wr.ownsRow w.heap.size 3 1 v (m1 + k) (intV (xs ++ ys.take k))) ∧ Hid (Below w.heap.size w wr)) (fun _ i _ => m2 - (RowKit.intOf i).toNat)
      case atStart => exact ⟨0, by omega, rfl, HO1, HB1⟩
      case round =>
        obtain ⟨k, hk, rfl, HO, HB⟩ := hrel
        obtain ⟨au, cu, rfl⟩ := slice_form HO.out
        by_cases hkm : k < m2
        · obtain ⟨bl, ol, rfl, hcl⟩ := HY.out (by omega)
          have hx0 : ys[k]? = some (ys[k]'(by omega)) := List.getElem?_eq_getElem (by omega)
          obtain ⟨x, hx⟩ : ∃ x, ys[k]'(by omega) = x := ⟨_, rfl⟩
          rw [hx] at hx0
          have e4' := hcl k _ hx0
          have hPb : bl < w.heap.size := World.block_lt_of_cell? w _ e4'
          have e4 := cell_on HB.out e4'
          have hi0 : (0 : Int) ≤ (k : Int) := Int.natCast_nonneg _
          have hi1 : (k : Int) < (m2 : Int) := by omega
          have HN : Hid (xs ++ ys.take (k + 1) = (xs ++ ys.take k) ++ [x]) := Lib.hid (by rw [← hx, List.take_succ_eq_append_getElem (by omega)]; rw [List.append_assoc])
          have hba := (Below.refl wr.heap.size wr).alloc (Nat.le_refl _) (.cells #[.int .i64 x] 3)
          have HBd := Lib.hid (HB.out.trans (hba.mono HB.out.size))
          have HOd := Lib.hid ((HO.out.alloc (.cells #[.int .i64 x] 3)))
          have hsz := HB.out.size
          clear hba hx hx0 hcl HY e4'
          go_wp2_with (first | (at_builtin; refine wpList_append_lies _ rfl _ _ 25 rfl w.heap.size 3 i0 (.int .i64 0) 1 8 Try.underlying25 hi hz0 hz1 hz2 rfl (by decide) _ _ _ rfl (HO.out.alloc _) ⟨wr.heap.size, 0, none⟩ 1 1 [.int .i64 x] rfl rfl ?c1 ?c2 (by omega) ?c3 ?c4 ?c5 _ rfl ?_))
          case c1 => exact World.news_of_block (cs := #[.int .i64 x]) (t := 3) (fr := (0, 0)) (heap_alloc_new wr _)
          case c2 => intro u hu; rw [List.mem_singleton] at hu; subst hu; rfl
          case c3 => unfold maxLen; omega
          case c4 => omega
          case c5 => simp; omega
          intro gg2 cap2 w5 hown hgrow hat hlt
          have HO5 : Hid (w5.ownsRow w.heap.size 3 1 (.slice (some ⟨gg2, 0, none⟩) (m1 + k + 1) cap2) (m1 + k + 1) (intV (xs ++ ys.take (k + 1)))) := Lib.hid (by rw [HN.out, intV_snoc]; exact hown)
          have HB5 := Lib.hid (below_growE HBd.out (Nat.le_refl _) (by simp; omega) HOd.out hgrow)
          clear hown hgrow hat hlt HO HB HBd HOd e4
          go_wp2
          go_roundw
          case rel => exact ⟨k + 1, by omega, by go_num, HO5, HB5⟩
          case measure => simp [RowKit.intOf] <;> omega
        · obtain rfl : k = m2 := by omega
          have HS : Hid (IntsAt wr (.slice au (m1 + k) cu) (xs ++ ys)) := Lib.hid (by
            have h := HO.out
            rw [List.take_of_length_le (by omega)] at h
            exact ints_own8 (by rw [List.length_append, h1, h2]; exact h))
          go_wp2
          go_ret
          exact ⟨_, rfl, HS.out, HB.out⟩
theorem pjoin_any {v u : Value} {xs ys : List Int} (l1 : xs.length ≤ 10000) (l2 : ys.length ≤ 10000) (w : World) (h : IntsAt w v xs) (hi : IntsAt w u ys) :
    Calls Try.prog 29 #[v, u] w fun e w' => ∃ v', e = .returned v' ∧ IntsAt w' v' (xs ++ ys) ∧ Below w.heap.size w w' := by
  obtain ⟨a1, c1, rfl, _, k1⟩ := h
  obtain ⟨a2, c2, rfl, _, k2⟩ := hi
  exact pjoin_some xs ys a1 a2 _ _ c1 c2 rfl rfl l1 l2 w (Lib.hid k1) (Lib.hid k2)
end Go.Proofs.Ytifljelphniipaa
