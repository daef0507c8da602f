import Derived.Test.YtagpmjpkbnfhnaaTokM
set_option linter.unusedVariables false
set_option linter.unusedSimpArgs false
namespace Go.Proofs.Ytagpmjpkbnfhnaa
open Go.RowKit
def allB (l : List ByteArray) : ByteArray := ⟨(allOf l).toArray⟩
theorem allB_data (l : List ByteArray) : (allB l).data.toList = allOf l := rfl
theorem allB_take {V : List ByteArray} {k : Nat} {x : ByteArray} (hx : V[k]? = some x) : allB (V.take (k + 1)) = allB (V.take k) ++ x ++ ⟨#[10]⟩ := by
  obtain ⟨hk, rfl⟩ := List.getElem?_eq_some_iff.1 hx
  apply data_inj
  rw [allB_data, List.take_succ_eq_append_getElem hk]
  simp only [ByteArray.data_append, Array.toList_append]
  rw [allB_data]
  unfold allOf
  rw [List.flatMap_append]
  simp
theorem all_len (t : ByteArray) : (allOf (linesOf t).1).length + (linesOf t).2.size ≤ t.size := by
  have key : ∀ n (t : ByteArray), t.size ≤ n → (allOf (linesOf t).1).length + (linesOf t).2.size ≤ t.size := by
    intro n
    induction n with
    | zero =>
      intro t h
      rw [lines_miss (fun j hj => by omega)]
      simp [allOf]
    | succ n ih =>
      intro t h
      rcases nl_cases t with ⟨_, h1⟩ | ⟨i, hi, _, e, h1⟩
      · rw [lines_miss h1]; simp [allOf]
      · rw [lines_hit hi h1 e]
        have hz : (t.extract (i + 1) t.size).size = t.size - (i + 1) := by rw [ByteArray.size_extract]; omega
        have h2 := ih (t.extract (i + 1) t.size) (by omega)
        have h3 : (bareB (t.extract 0 i)).data.toList.length ≤ i := by
          have h4 := Lib.trimSuffix_le (t.extract 0 i).data.toList [13]
          have h5 : (t.extract 0 i).data.toList.length ≤ i := by rw [← Lib.size_eq, ByteArray.size_extract]; omega
          exact Nat.le_trans h4 h5
        simp only [allOf, List.flatMap_cons, List.length_append, List.length_singleton] at h2 ⊢
        omega
  exact key t.size t (Nat.le_refl _)
theorem allB_le {V : List ByteArray} {m : Nat} (h : (allOf V).length ≤ m) (k : Nat) : (allB (V.take k)).size ≤ m := by
  have e : allOf V = allOf (V.take k) ++ allOf (V.drop k) := by
    unfold allOf
    rw [← List.flatMap_append, List.take_append_drop]
  rw [e, List.length_append] at h
  unfold allB
  rw [size_mk]
  omega
def NoCr (s : ByteArray) (k : Nat) : Prop := ∀ j (hj : j < s.size), j < k → s[j] ≠ 13
theorem NoCr.succ {s : ByteArray} {k : Nat} (h : NoCr s k) (hk : k < s.size) (hn : s[k] ≠ 13) : NoCr s (k + 1) := fun j hj hlt => by
  by_cases e : j = k
  · subst e; exact hn
  · exact h j hj (by omega)
theorem nocr_all {s : ByteArray} (h : NoCr s s.size) : ∀ c ∈ s.data.toList, c ≠ 13 := by
  intro x hx
  obtain ⟨i, hi, rfl⟩ := List.getElem_of_mem hx
  have hi' : i < s.size := by rw [Lib.size_eq]; exact hi
  exact h i hi' hi'
theorem back_all {s : ByteArray} (h : NoCr s s.size) : allB (linesOf s).1 ++ (linesOf s).2 = s := by
  apply data_inj
  simp only [ByteArray.data_append, Array.toList_append]
  exact all_back s (nocr_all h)
theorem cells_of {w : World} {v : Value} {xs : List ByteArray} (h : StrsAt w v xs) : ∃ a c, v = .slice a xs.length c ∧ ∀ (j : Nat) x, xs[j]? = some x → ∃ b off, a = some ⟨b, off, none⟩ ∧ w.cell? ⟨b, off + j, none⟩ = some (.string x) := by
  obtain ⟨a, c, rfl, _, g⟩ := h
  refine ⟨a, c, rfl, fun j x hj => ?_⟩
  obtain ⟨b, off, e5, g2⟩ := g (by have := (List.getElem?_eq_some_iff.1 hj).1; omega)
  exact ⟨b, off, e5, g2 j x hj⟩
theorem tlines_cells (s : ByteArray) (hs : s.size ≤ 4000000) (w : World) :
    Calls Try.prog 15 #[.string s] w fun e w' => ∃ a1 c1, e = .returned (.tuple #[.slice a1 (linesOf s).1.length c1, .string (linesOf s).2]) ∧ (∀ (j : Nat) x, (linesOf s).1[j]? = some x → ∃ b off, a1 = some ⟨b, off, none⟩ ∧ w'.cell? ⟨b, off + j, none⟩ = some (.string x)) ∧ Below w.heap.size w w' := by
  refine (tlines_any s hs w).mono ?_
  rintro e w' ⟨v, rfl, hS, hB⟩
  obtain ⟨a, c, rfl, g⟩ := cells_of hS
  exact ⟨a, c, rfl, g, hB⟩
set_option maxHeartbeats 2000000 in
theorem backlaw_in (s : ByteArray) (xs : List ByteArray) (hs : s.size ≤ 2000) (hn : xs.length ≤ 60) (hmx : ∀ x ∈ xs, x.size ≤ maxLen) (a : Option Addr) (c : Nat) (w : World) (h : StrsAt w (.slice a xs.length c) xs) :
    Calls Try.prog 5 #[.slice a xs.length c, .string s] w fun e w' => e = .returned (.bool true) ∧ Below w.heap.size w w' := by
  have HD : Hid (∀ (j : Nat) x, xs[j]? = some x → ∃ b off, a = some ⟨b, off, none⟩ ∧ w.cell? ⟨b, off + j, none⟩ = some (.string x)) := Lib.hid (by
    obtain ⟨a1, c1, e1, g⟩ := cells_of h
    injection e1 with e2 e3 e4
    subst e2
    exact g)
  have HT := Lib.hid (fun W => tlines_cells s (by omega) W)
  have HBk : Hid (NoCr s s.size → allB (linesOf s).1 ++ (linesOf s).2 = s) := Lib.hid back_all
  have HLen : Hid ((allOf (linesOf s).1).length ≤ 2000) := Lib.hid (by have := all_len s; omega)
  have HA := Lib.hid (fun W => alive_any W)
  have HJ : Hid ((∀ x ∈ xs, x.size ≤ 100) → ∀ W, Below w.heap.size w W → Calls Try.prog 19 #[.slice a xs.length c] W fun e w' => e = .returned (.tuple #[.string (joinV xs), .int .i64 (joinF xs)]) ∧ Below W.heap.size W w') :=
    Lib.hid (fun hx W hW => tjoin_any (by omega) (fun x hm => Nat.le_trans (hx x hm) (by omega)) W (h.on hW))
  have HW : Hid (joinF xs = 0 → ∀ W, Calls Try.prog 8 #[.string (joinV xs)] W fun e w' => ∃ v, e = .returned (.tuple #[v, .int .i64 0]) ∧ StrsAt w' v xs ∧ Below W.heap.size W w') := Lib.hid (fun hf W => by
    obtain ⟨e1, e2⟩ := back_words hf
    obtain ⟨g1, g2, g3⟩ := joinF_ok hf
    unfold joinOk at g2
    rw [fit_join, Bool.and_eq_true, decide_eq_true_eq, decide_eq_true_eq] at g2
    have h1 := twords_any (joinV xs) (by rw [g3]; unfold maxLen; omega) W
    rw [e1, e2] at h1
    exact h1)
  have HQ := Lib.hid (fun W v (hW : Below w.heap.size w W) (hv : StrsAt W v xs) => same_yes (by omega) W hv (h.on hW))
  have HZ := Lib.hid hmx
  clear h hmx
  obtain ⟨n, hn0⟩ : ∃ n, xs.length = n := ⟨_, rfl⟩
  obtain ⟨m, hm0⟩ : ∃ m, (linesOf s).1.length = m := ⟨_, rfl⟩
  rw [hn0] at hn HJ HQ
  rw [hn0]
  rw [hm0] at HT
  have hmb : m ≤ 2000 := by have := lines_len s; omega
  obtain ⟨V, hV⟩ : ∃ V, (linesOf s).1 = V := ⟨_, rfl⟩
  rw [hV] at HT HBk HLen hm0
  generalize (linesOf s).2 = R at HT HBk
  generalize joinV xs = J at HJ HW
  generalize joinF xs = F at HJ HW
  clear hV
  go_enter Try.func5, Try.ntmps5
  go_wp2
  go_loop [5] (fun i => ∃ k : Nat, k ≤ n ∧ i = .int .i64 k ∧ Hid (∀ (j : Nat) x, j < k → xs[j]? = some x → x.size ≤ 100)) (fun i => n - (RowKit.intOf i).toNat)
  case atStart => exact ⟨0, Nat.zero_le _, rfl, Lib.hid fun j _ h => by omega⟩
  case round =>
    obtain ⟨k, hk, rfl, HS⟩ := hrel
    by_cases hlt : k < n
    · have hx0 : xs[k]? = some (xs[k]'(by omega)) := List.getElem?_eq_getElem (by omega)
      obtain ⟨b, off, rfl, e1⟩ := HD.out k _ hx0
      obtain ⟨x, hx⟩ : ∃ x, xs[k]'(by omega) = x := ⟨_, rfl⟩
      rw [hx] at e1 hx0
      have hxm := HZ.out x (List.mem_of_getElem? hx0)
      unfold maxLen at hxm
      by_cases hb : x.size ≤ 100
      · have HN : Hid (∀ (j : Nat) x, j < k + 1 → xs[j]? = some x → x.size ≤ 100) := Lib.hid (fun j z hj hz => by
          by_cases e : j = k
          · subst e
            rw [hx0] at hz
            obtain rfl := Option.some.inj hz
            exact hb
          · exact HS.out j z (by omega) hz)
        clear hx hx0
        go_wp2
        go_round
        case rel => exact ⟨k + 1, by omega, by go_num, HN⟩
        case measure => simp [RowKit.intOf] <;> omega
      · clear hx hx0
        go_wp2_with (go_at_call 7; refine (HA.out _).mono ?_; rintro e w6 ⟨rfl, hB6⟩)
        go_ret
        exact ⟨rfl, hB6⟩
    · obtain rfl : k = n := by omega
      have HX := Lib.hid (small_all (xs := xs) (by rw [hn0]; exact HS.out))
      clear HS HD HZ hlt
      by_cases hF : F = 0
      · subst hF
        have HW0 := Lib.hid (HW.out rfl)
        clear HW
        go_wp2_with (first
          | (go_at_call 19; refine (HJ.out HX.out _ (Below.refl _ _)).mono ?_; rintro e w1 ⟨rfl, hB1⟩; have HB1 := Lib.hid hB1; clear hB1)
          | (go_at_call 8; refine (HW0.out _).mono ?_; rintro e w2 ⟨v2, rfl, hS2, hB2⟩; have HS2 := Lib.hid hS2; have HB2 := Lib.hid (on_trans HB1.out hB2); clear hS2 hB2)
          | (go_at_call 10; refine (HQ.out _ _ HB2.out HS2.out).mono ?_; rintro e w3 ⟨rfl, hB3⟩; have HB3 := Lib.hid (on_trans HB2.out hB3); clear hB3)
          | (go_at_call 15; refine (HT.out _).mono ?_; rintro e w4 ⟨a1, c1, rfl, hD1, hB4⟩; have HD1 := Lib.hid hD1; have HB4 := Lib.hid (on_trans HB3.out hB4); clear hD1 hB4))
        clear HJ HW0 HQ HX
        go_loop [10, 13] (fun v i => ∃ (k2 : Nat) (y : ByteArray), k2 ≤ m ∧ y.size ≤ 2000 ∧ i = .int .i64 k2 ∧ v = .string y ∧ Hid (allB (V.take k2) = y)) (fun _ i => m - (RowKit.intOf i).toNat)
        case atStart => exact ⟨0, ⟨#[]⟩, Nat.zero_le _, Nat.zero_le _, rfl, rfl, Lib.hid rfl⟩
        case round =>
          obtain ⟨k2, y, hk2, hy, rfl, rfl, HA2⟩ := hrel
          by_cases hlt2 : k2 < m
          · have hx0 : V[k2]? = some (V[k2]'(by omega)) := List.getElem?_eq_getElem (by omega)
            obtain ⟨b, off, rfl, e1⟩ := HD1.out k2 _ hx0
            obtain ⟨x, hx⟩ : ∃ x, V[k2]'(by omega) = x := ⟨_, rfl⟩
            rw [hx] at e1 hx0
            have HS := Lib.hid (allB_take hx0)
            have hxs := allB_le (HLen.out) (k2 + 1)
            rw [HS.out, HA2.out] at hxs
            rw [HA2.out] at HS
            have hxs2 : y.size + x.size + 1 ≤ 2000 := by
              rw [ByteArray.size_append, ByteArray.size_append] at hxs
              exact hxs
            have hadd1 := run_string_add_sum (P := Try.prog) w4 y x (by omega)
            have hadd2 := run_string_add_sum (P := Try.prog) w4 (y ++ x) ⟨#[10]⟩ (by rw [ByteArray.size_append]; show y.size + x.size + 1 ≤ _; omega)
            obtain ⟨y1, hy1⟩ : ∃ y1, y ++ x = y1 := ⟨_, rfl⟩
            rw [hy1] at hadd1 hadd2 HS hxs
            obtain ⟨y2, hy3⟩ : ∃ y2, y1 ++ ⟨#[10]⟩ = y2 := ⟨_, rfl⟩
            rw [hy3] at hadd2 HS hxs
            clear hx hx0 hy1 hy3 hxs2
            go_wp2
            go_round
            case rel => exact ⟨k2 + 1, y2, by omega, hxs, by go_num, rfl, HS⟩
            case measure => simp [RowKit.intOf] <;> omega
          · obtain rfl : k2 = m := by omega
            have HM : Hid (allB V = y) := Lib.hid (by
              have h5 := HA2.out
              rw [List.take_of_length_le (by omega)] at h5
              exact h5)
            clear HD1 HA2 hlt2
            go_wp2
            go_loop [14] (fun i => ∃ k3 : Nat, k3 ≤ s.size ∧ i = .int .i64 k3 ∧ Hid (NoCr s k3)) (fun i => s.size - (RowKit.intOf i).toNat)
            case atStart => exact ⟨0, Nat.zero_le _, rfl, Lib.hid fun j _ h => by omega⟩
            case round =>
              obtain ⟨k3, hk3, rfl, HC⟩ := hrel
              by_cases hlt3 : k3 < s.size
              · by_cases he : s[k3] = 13
                · have h13 : ((s[k3].toNat : Int) == 13) = true := byte_eq (d := 13) he
                  clear he
                  go_wp2_with (go_at_call 7; refine (HA.out _).mono ?_; rintro e w7 ⟨rfl, hB7⟩; have HB7 := Lib.hid (on_trans HB4.out hB7); clear hB7)
                  go_ret
                  exact ⟨rfl, HB7.out⟩
                · have h13 : ((s[k3].toNat : Int) == 13) = false := byte_ne (d := 13) he
                  have HN := Lib.hid (HC.out.succ hlt3 he)
                  clear he
                  go_wp2
                  go_round
                  case rel => exact ⟨k3 + 1, by omega, by go_num, HN⟩
                  case measure => simp [RowKit.intOf] <;> omega
              · obtain rfl : k3 = s.size := by omega
                have hE := HBk.out HC.out
                rw [HM.out] at hE
                have hadd := run_string_add_sum (P := Try.prog) w4 y R (by rw [← ByteArray.size_append, hE]; omega)
                rw [hE] at hadd
                clear hE
                go_wp2_with (go_at_call 7; refine (HA.out _).mono ?_; rintro e w7 ⟨rfl, hB7⟩; have HB7 := Lib.hid (on_trans HB4.out hB7); clear hB7)
                go_ret
                exact ⟨rfl, HB7.out⟩
      · have hF0 : (F == 0) = false := by rw [beq_eq_false_iff_ne]; exact hF
        clear hF HW
        go_wp2_with (first
          | (go_at_call 19; refine (HJ.out HX.out _ (Below.refl _ _)).mono ?_; rintro e w1 ⟨rfl, hB1⟩; have HB1 := Lib.hid hB1; clear hB1)
          | (go_at_call 15; refine (HT.out _).mono ?_; rintro e w4 ⟨a1, c1, rfl, hD1, hB4⟩; have HD1 := Lib.hid hD1; have HB4 := Lib.hid (on_trans HB1.out hB4); clear hD1 hB4))
        clear HJ HQ HX
        go_loop [10, 13] (fun v i => ∃ (k2 : Nat) (y : ByteArray), k2 ≤ m ∧ y.size ≤ 2000 ∧ i = .int .i64 k2 ∧ v = .string y ∧ Hid (allB (V.take k2) = y)) (fun _ i => m - (RowKit.intOf i).toNat)
        case atStart => exact ⟨0, ⟨#[]⟩, Nat.zero_le _, Nat.zero_le _, rfl, rfl, Lib.hid rfl⟩
        case round =>
          obtain ⟨k2, y, hk2, hy, rfl, rfl, HA2⟩ := hrel
          by_cases hlt2 : k2 < m
          · have hx0 : V[k2]? = some (V[k2]'(by omega)) := List.getElem?_eq_getElem (by omega)
            obtain ⟨b, off, rfl, e1⟩ := HD1.out k2 _ hx0
            obtain ⟨x, hx⟩ : ∃ x, V[k2]'(by omega) = x := ⟨_, rfl⟩
            rw [hx] at e1 hx0
            have HS := Lib.hid (allB_take hx0)
            have hxs := allB_le (HLen.out) (k2 + 1)
            rw [HS.out, HA2.out] at hxs
            rw [HA2.out] at HS
            have hxs2 : y.size + x.size + 1 ≤ 2000 := by
              rw [ByteArray.size_append, ByteArray.size_append] at hxs
              exact hxs
            have hadd1 := run_string_add_sum (P := Try.prog) w4 y x (by omega)
            have hadd2 := run_string_add_sum (P := Try.prog) w4 (y ++ x) ⟨#[10]⟩ (by rw [ByteArray.size_append]; show y.size + x.size + 1 ≤ _; omega)
            obtain ⟨y1, hy1⟩ : ∃ y1, y ++ x = y1 := ⟨_, rfl⟩
            rw [hy1] at hadd1 hadd2 HS hxs
            obtain ⟨y2, hy3⟩ : ∃ y2, y1 ++ ⟨#[10]⟩ = y2 := ⟨_, rfl⟩
            rw [hy3] at hadd2 HS hxs
            clear hx hx0 hy1 hy3 hxs2
            go_wp2
            go_round
            case rel => exact ⟨k2 + 1, y2, by omega, hxs, by go_num, rfl, HS⟩
            case measure => simp [RowKit.intOf] <;> omega
          · obtain rfl : k2 = m := by omega
            have HM : Hid (allB V = y) := Lib.hid (by
              have h5 := HA2.out
              rw [List.take_of_length_le (by omega)] at h5
              exact h5)
            clear HD1 HA2 hlt2
            go_wp2
            go_loop [14] (fun i => ∃ k3 : Nat, k3 ≤ s.size ∧ i = .int .i64 k3 ∧ Hid (NoCr s k3)) (fun i => s.size - (RowKit.intOf i).toNat)
            case atStart => exact ⟨0, Nat.zero_le _, rfl, Lib.hid fun j _ h => by omega⟩
            case round =>
              obtain ⟨k3, hk3, rfl, HC⟩ := hrel
              by_cases hlt3 : k3 < s.size
              · by_cases he : s[k3] = 13
                · have h13 : ((s[k3].toNat : Int) == 13) = true := byte_eq (d := 13) he
                  clear he
                  go_wp2_with (go_at_call 7; refine (HA.out _).mono ?_; rintro e w7 ⟨rfl, hB7⟩; have HB7 := Lib.hid (on_trans HB4.out hB7); clear hB7)
                  go_ret
                  exact ⟨rfl, HB7.out⟩
                · have h13 : ((s[k3].toNat : Int) == 13) = false := byte_ne (d := 13) he
                  have HN := Lib.hid (HC.out.succ hlt3 he)
                  clear he
                  go_wp2
                  go_round
                  case rel => exact ⟨k3 + 1, by omega, by go_num, HN⟩
                  case measure => simp [RowKit.intOf] <;> omega
              · obtain rfl : k3 = s.size := by omega
                have hE := HBk.out HC.out
                rw [HM.out] at hE
                have hadd := run_string_add_sum (P := Try.prog) w4 y R (by rw [← ByteArray.size_append, hE]; omega)
                rw [hE] at hadd
                clear hE
                go_wp2_with (go_at_call 7; refine (HA.out _).mono ?_; rintro e w7 ⟨rfl, hB7⟩; have HB7 := Lib.hid (on_trans HB4.out hB7); clear hB7)
                go_ret
                exact ⟨rfl, HB7.out⟩
set_option maxHeartbeats 400000 in
theorem backlaw_out (s : ByteArray) (hs : s.size ≤ maxLen) (n : Nat) (h : 2000 < s.size ∨ 60 < n) (hn : n ≤ maxLen) (a : Option Addr) (c : Nat) (w : World) :
    Calls Try.prog 5 #[.slice a n c, .string s] w fun e w' => e = .returned (.bool true) ∧ Below w.heap.size w w' := by
  have HA := Lib.hid (fun W => alive_any W)
  unfold maxLen at hs hn
  by_cases h1 : 2000 < s.size
  · go_enter Try.func5, Try.ntmps5
    go_wp2_with (go_at_call 7; refine (HA.out _).mono ?_; rintro e w6 ⟨rfl, hB6⟩)
    go_ret
    exact ⟨rfl, hB6⟩
  · have h2 : 60 < n := by omega
    clear h
    go_enter Try.func5, Try.ntmps5
    go_wp2_with (go_at_call 7; refine (HA.out _).mono ?_; rintro e w6 ⟨rfl, hB6⟩)
    go_ret
    exact ⟨rfl, hB6⟩
theorem backlaw_any (s : ByteArray) (hs : s.size ≤ maxLen) {v : Value} {xs : List ByteArray} (hz : ∀ x ∈ xs, x.size ≤ maxLen) (hn : xs.length ≤ maxLen) (w : World) (h : StrsAt w v xs) :
    Calls Try.prog 5 #[v, .string s] w fun e w' => e = .returned (.bool true) ∧ Below w.heap.size w w' := by
  have h' := h
  obtain ⟨a, c, rfl, _⟩ := h'
  by_cases h1 : s.size ≤ 2000 ∧ xs.length ≤ 60
  · exact backlaw_in s xs h1.1 h1.2 hz a c w h
  · exact backlaw_out s hs xs.length (by omega) hn a c w
end Go.Proofs.Ytagpmjpkbnfhnaa
