import Derived.Test.YtcgijabnknemiaaGraZh
import Derived.Maps.OwnSet
set_option linter.unusedVariables false
set_option linter.unusedSimpArgs false
namespace Go.Proofs.Ytcgijabnknemiaa
open Go.RowKit Go.Maps
attribute [local go_sem ↓] Go.wp_at_zero Go.wp_at_succ
theorem lawI : Keyed Try.prog 3 := int_keyed Try.underlying3
theorem zeroI (w : World) : (zeroValue 3).run Try.prog w = .ok (.int .i64 0) w := by kernel_rfl
theorem wfN {n : Nat} (h : n ≤ 100000) : (Lit.int .i64 (n : Int)).wf = true := WalkArith.wf_i64 (by omega)
abbrev OwnsI (w : World) (b n : Nat) (D : DataW Unit) : Prop := w.ownsMap Try.prog 3 (plainElem (H := Unit) Try.prog 3) b n D
/-- What the map holds behind k nodes: each one that is kept, at its new number. -/
def MapIs (ks : List Bool) (k : Nat) (D : DataW Unit) : Prop := IsMap D ∧ ∀ j : Nat, Maps.has D (.int .i64 (j : Int)) = (decide (j < k) && ks.getD j false) ∧ (j < k → ks.getD j false = true → ∀ z, D.atKey (.int .i64 (j : Int)) z = .lit (.int .i64 ((rk ks j : Nat) : Int)))
theorem mapIs_zero (ks : List Bool) : MapIs ks 0 (.map []) := ⟨⟨_, rfl⟩, fun j => ⟨by simp [Maps.has], fun h => by omega⟩⟩
theorem mapIs_no {ks : List Bool} {k : Nat} {D : DataW Unit} (h : MapIs ks k D) (hk : ks[k]? = some false) : MapIs ks (k + 1) D := by
  have h1 : ks.getD k false = false := by rw [List.getD_eq_getElem?_getD, hk]; rfl
  refine ⟨h.1, fun j => ⟨?_, fun hj hb => ?_⟩⟩
  · rw [(h.2 j).1]
    by_cases e : j = k
    · subst e; rw [h1]; simp
    · have : decide (j < k) = decide (j < k + 1) := by by_cases x : j < k <;> simp [x] <;> omega
      rw [this]
  · by_cases e : j = k
    · subst e; rw [h1] at hb; cases hb
    · exact (h.2 j).2 (by omega) hb
theorem mapIs_yes {ks : List Bool} {k : Nat} {D : DataW Unit} (h : MapIs ks k D) (hk : ks[k]? = some true) : MapIs ks (k + 1) (D.put (.int .i64 (k : Int)) (.lit (.int .i64 ((rk ks k : Nat) : Int)))) := by
  have h1 : ks.getD k false = true := by rw [List.getD_eq_getElem?_getD, hk]; rfl
  have hkey : WideAt.IsKeyLit (Lit.int .i64 (k : Int)) := trivial
  refine ⟨IsMap.put h.1 _ _, fun j => ⟨?_, fun hj hb z => ?_⟩⟩
  · by_cases e : j = k
    · subst e; rw [has_put_same h.1 hkey, h1]; simp
    · have hne : Lit.int .i64 (j : Int) ≠ Lit.int .i64 (k : Int) := fun x => by injection x with _ x; omega
      rw [has_put_other hne, (h.2 j).1]
      have : decide (j < k) = decide (j < k + 1) := by by_cases x : j < k <;> simp [x] <;> omega
      rw [this]
  · by_cases e : j = k
    · subst e; rw [atKey_put_same h.1 hkey]
    · have hne : Lit.int .i64 (j : Int) ≠ Lit.int .i64 (k : Int) := fun x => by injection x with _ x; omega
      rw [atKey_put_other hne]
      exact (h.2 j).2 (by omega) hb z
theorem owns_map {w w1 : World} {base b sz n : Nat} {e : TypeId} {v : Value} {xs : List Value} (h : w.ownsRow base e sz v n xs) (hg : w.grownBy w1 (some b)) (hb : b < base) : w1.ownsRow base e sz v n xs := by
  refine h.kept hg ?_
  rcases h.2 with ⟨rfl, _⟩ | ⟨g, cap, cur, rfl, hbg, _⟩
  · exact .inl rfl
  · right
    simp [Value.ownBlock]
    omega
set_option maxHeartbeats 2000000 in
theorem prenum_any (n : Nat) (ks : List Bool) (kb ko kc : Nat) (hks : ks.length = n) (hn : n ≤ 4096) (w : World) (HK : Hid (∀ j x, ks[j]? = some x → w.cell? ⟨kb, ko + j, none⟩ = some (.bool x))) :
    Calls Try.prog 35 #[.slice (some ⟨kb, ko, none⟩) n kc] w fun e w' => ∃ (D : DataW Unit) (a' : Option Addr) (c' : Nat), e = .returned (.tuple #[.map (some w.heap.size), .slice a' (rk ks n) c']) ∧ OwnsI w' w.heap.size n D ∧ MapIs ks n D ∧ w'.ownsRow (w.heap.size + 1) 3 1 (.slice a' (rk ks n) c') (rk ks n) (natV (keptL ks n)) ∧ Below w.heap.size w w' := by
  have hmm := @run_makeMap Try.prog
  have HB0 := Lib.hid ((Below.refl w.heap.size w).alloc (Nat.le_refl _) (.map #[] 0))
  have HM0 : Hid (OwnsI (w.alloc (.map #[] 0)) w.heap.size 0 (.map [])) := Lib.hid (World.ownsMap_made _ _ _ _)
  have HS0 : Hid (w.heap.size + 1 ≤ (w.alloc (.map #[] 0)).heap.size) := Lib.hid (by simp)
  obtain ⟨M, hM⟩ : ∃ M, w.heap.size = M := ⟨_, rfl⟩
  go_enter Try.func35, Try.ntmps35
  go_wp2
  rw [hM] at HB0 HM0 HS0
  go_loopw [5, 11] (fun u i wr => ∃ (k : Nat) (D : DataW Unit), k ≤ n ∧ i = .int .i64 k ∧ Hid (wr.ownsRow (M + 1) 3 1 u (rk ks k) (natV (keptL ks k))) ∧ Hid (OwnsI wr M k D) ∧ Hid (MapIs ks k D) ∧ Hid (Below M w wr) ∧ Hid (M + 1 ≤ wr.heap.size)) (fun _ i _ => n - (RowKit.intOf i).toNat)
  case atStart => exact ⟨0, _, by omega, rfl, Lib.hid (World.ownsRow_nil _ _ _ _), HM0, Lib.hid (mapIs_zero ks), HB0, HS0⟩
  case round =>
    obtain ⟨k, D, hk, rfl, HO, HM, HI, HB, HS⟩ := hrel
    obtain ⟨au, cu, rfl⟩ := slice_form HO.out
    by_cases hkn : k < n
    · have hkg : ks[k]? = some (ks[k]'(by omega)) := List.getElem?_eq_getElem (by omega)
      have kc0 := HK.out k _ hkg
      have hkbs : kb < M := by have := World.block_lt_of_cell? w _ kc0; simp only at this; omega
      have kc1 := cell_lt HB.out (show kb < M by omega) kc0
      have hk0 : (0 : Int) ≤ (k : Int) := Int.natCast_nonneg _
      have hk1 : (k : Int) < (n : Int) := by omega
      obtain ⟨bit, hbit⟩ : ∃ bit, ks[k]'(by omega) = bit := ⟨_, rfl⟩
      rw [hbit] at kc1 hkg
      have hrl : rk ks k ≤ 4096 := Nat.le_trans (rk_le ks k) (by omega)
      cases bit
      · have e1 : rk ks (k + 1) = rk ks k := by unfold rk; rw [keptL_no hkg]
        have HE1 := Lib.hid e1
        have HE2 := Lib.hid (keptL_no hkg)
        have HI2 := Lib.hid (mapIs_no HI.out hkg)
        have HM2 := Lib.hid (HM.out.mono (Nat.le_succ k))
        clear kc0 hbit hkg e1 HK HI HM HB0 HM0 HS0
        go_wp2
        go_roundw
        case rel => exact ⟨k + 1, D, by omega, by go_num, Lib.hid (by rw [HE1.out, HE2.out]; exact HO.out), HM2, HI2, HB, HS⟩
        case measure => simp [RowKit.intOf] <;> omega
      · have e1 : rk ks (k + 1) = rk ks k + 1 := by unfold rk; rw [keptL_yes hkg, List.length_append]; rfl
        have HE1 := Lib.hid e1
        have HE2 := Lib.hid (keptL_yes hkg)
        have HI2 := Lib.hid (mapIs_yes HI.out hkg)
        have hkey : keyOf Try.prog 3 (.int .i64 (k : Int)) = some (.int .i64 (k : Int)) := keyOf_int_mk Try.underlying3 (wfN (by omega))
        obtain ⟨i0, hi, hz0, hz1, hz2⟩ := info_parts infoInt
        clear kc0 hbit hkg e1 HK HI HB0 HM0 HS0
        go_wp2_with (first
          | (at_mapUpdate; refine wpList_mapUpdate_own _ rfl _ _ _ 52 rfl 3 3 lawI Try.underlying52 _ M k D rfl HM.out (by unfold maxLen; omega) _ _ _ rfl rfl hkey (.lit (.int .i64 ((rk ks k : Nat) : Int))) [] (plainElem_int Try.underlying3 (wfN (by omega))) ?_; intro w1 hown1 hgrow1; have HM2 := Lib.hid hown1; have HO2 := Lib.hid (owns_map HO.out hgrow1 (Nat.lt_succ_self M)); have HB2 := Lib.hid (HB.out.grown hgrow1 (by have := HS.out; omega) (fun j hj => by cases hj; exact Nat.le_refl _)); have HS2 : Hid (M + 1 ≤ w1.heap.size) := Lib.hid (Nat.le_trans HS.out hgrow1.size); clear hown1 hgrow1 HM HO HB HS)
          | (at_builtin; refine wpList_append_lies _ rfl _ _ 33 rfl (M + 1) 3 i0 (.int .i64 0) 1 8 Try.underlying33 hi hz0 hz1 hz2 rfl (by decide) _ _ _ rfl (HO2.out.alloc _) ⟨w1.heap.size, 0, none⟩ 1 1 [.int .i64 (k : Int)] rfl rfl ?c1 ?c2 (by omega) ?c3 ?c4 ?c5 _ rfl ?_))
        case c1 => intro j u hj; match j, hj with | 0, hj => simp at hj; subst hj; show World.cell? _ ⟨w1.heap.size, 0, none⟩ = _; rw [World.cell?_alloc_at _ _ _ _ (by simp)]; rfl
        case c2 => intro u hu; rw [List.mem_singleton] at hu; subst hu; rfl
        case c3 => unfold maxLen; omega
        case c4 => omega
        case c5 => have := HS2.out; simp; omega
        intro gg cap w2 hown1 hgrow hat hlt2
        rw [← natV_snoc, ← HE2.out, ← HE1.out] at hown1
        have HO3 := Lib.hid hown1
        have HM3 : Hid (OwnsI w2 M (k + 1) _) := Lib.hid ((HM2.out.alloc _).kept hgrow (fun e => by have := ((HO2.out.alloc (.cells #[.int .i64 (k : Int)] 3)).lt _ e.symm).1; omega))
        have HB3 := Lib.hid (below_grow (HB2.out.alloc (by have := HS2.out; omega) _) (Nat.le_succ M) (by have := HS2.out; simp; omega) (HO2.out.alloc _) hgrow)
        have HS3 : Hid (M + 1 ≤ w2.heap.size) := Lib.hid (by have := hgrow.size; have := HS2.out; simp at *; omega)
        clear hown1 hgrow hat HB2 HS2 HO2 HM2
        go_wp2
        go_roundw
        case rel => exact ⟨k + 1, _, by omega, by go_num, by rw [HE1.out] at HO3 ⊢; exact HO3, HM3, HI2, HB3, HS3⟩
        case measure => simp [RowKit.intOf] <;> omega
    · obtain rfl : k = n := by omega
      go_wp2
      go_ret2
      subst hM
      exact ⟨D, au, cu, rfl, HM.out, HI.out, HO.out, HB.out⟩
end Go.Proofs.Ytcgijabnknemiaa
