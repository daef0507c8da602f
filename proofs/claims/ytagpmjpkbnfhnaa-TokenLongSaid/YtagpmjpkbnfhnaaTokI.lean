import Derived.Test.YtagpmjpkbnfhnaaTokH
set_option linter.unusedVariables false
set_option linter.unusedSimpArgs false
namespace Go.Proofs.Ytagpmjpkbnfhnaa
open Go.RowKit
theorem joins_any {v : Value} {xs : List ByteArray} (hb : xs.length ≤ 4000000) (hz : (joinB xs).size ≤ 65536) (w : World) (h : StrsAt w v xs) :
    Calls Try.prog 28 #[v, .string ⟨#[32]⟩] w fun e w' => e = .returned (.string (joinB xs)) ∧ Below w.heap.size w w' := by
  obtain ⟨a1, c1, rfl, hc, g1⟩ := h
  by_cases h0 : xs.length = 0
  · obtain rfl := List.length_eq_zero_iff.1 h0
    refine (Try.strings_Join_none a1 c1 ⟨#[32]⟩ w).mono ?_
    rintro e w' ⟨rfl, rfl⟩
    exact ⟨rfl, Below.refl _ _⟩
  · obtain ⟨b1, o1, rfl, k1⟩ := g1 (by omega)
    have hbk : b1 < w.heap.size := World.block_lt_of_cell? w _ (k1 0 _ (List.getElem?_eq_getElem (by omega)))
    have hl : (Lib.join (xs.map (·.data.toList)) [32]).length = (joinB xs).size := by
      unfold joinB
      rw [size_mk]
    exact Try.strings_Join b1 o1 c1 xs ⟨#[32]⟩ w k1 hbk (by omega) hc (by rw [hl]; omega)
theorem joinV_bad {xs : List ByteArray} (h : xs.all rightB = false) : joinV xs = ⟨#[]⟩ ∧ joinF xs = 1 := by
  unfold joinV joinF
  rw [if_neg (by simp [h]), if_neg (by simp [h])]
  exact ⟨rfl, rfl⟩
theorem joinV_big {xs : List ByteArray} (h : xs.all rightB = true) (h2 : joinOk xs = false) : joinV xs = ⟨#[]⟩ ∧ joinF xs = 5 := by
  unfold joinV joinF
  rw [if_pos h, if_pos h, if_neg (by simp [h2]), if_neg (by simp [h2])]
  exact ⟨rfl, rfl⟩
theorem joinV_ok {xs : List ByteArray} (h : xs.all rightB = true) (h2 : joinOk xs = true) : joinV xs = joinB xs ∧ joinF xs = 0 := by
  unfold joinV joinF
  rw [if_pos h, if_pos h, if_pos h2, if_pos h2]
  exact ⟨rfl, rfl⟩
set_option maxHeartbeats 1000000 in
theorem tjoin_any {v : Value} {xs : List ByteArray} (hb : xs.length ≤ 4000000) (hz : ∀ x ∈ xs, x.size ≤ 4000000) (w : World) (h : StrsAt w v xs) :
    Calls Try.prog 19 #[v] w fun e w' => e = .returned (.tuple #[.string (joinV xs), .int .i64 (joinF xs)]) ∧ Below w.heap.size w w' := by
  have HC := Lib.hid (contains_any hb (fun x hx => Nat.le_trans (hz x hx) (by unfold maxLen; omega)) w h)
  have HF := Lib.hid (fit_any hb hz w h)
  have HJ : Hid ((joinB xs).size ≤ 65536 → _) := Lib.hid (fun hj => joins_any hb hj w h)
  obtain ⟨a1, c1, rfl, _, g1⟩ := h
  clear hz g1
  obtain ⟨n, hn⟩ : ∃ n, xs.length = n := ⟨_, rfl⟩
  rw [hn] at HC HF HJ ⊢
  cases hr : xs.all rightB
  · have HN := Lib.hid (joinV_bad hr)
    rw [hr] at HC
    clear hr HJ HF
    go_enter Try.func19, Try.ntmps19
    go_wp2_with (go_at_call 26; refine HC.out.mono ?_; rintro e w' ⟨rfl, rfl⟩)
    go_ret2
    exact ⟨by rw [HN.out.1, HN.out.2]; rfl, Below.refl _ _⟩
  · rw [hr] at HC
    by_cases hbig : n ≤ 16384
    · cases hf : fitB xs
      · have HN := Lib.hid (joinV_big hr (by unfold joinOk; rw [hf, Bool.and_false]))
        rw [hf] at HF
        clear hr hf HJ
        go_enter Try.func19, Try.ntmps19
        go_wp2_with (first | (go_at_call 26; refine HC.out.mono ?_; rintro e w' ⟨rfl, hw'⟩; obtain rfl := hw'.symm) | (go_at_call 27; refine HF.out.mono ?_; rintro e w' ⟨rfl, hw'⟩; obtain rfl := hw'.symm))
        go_ret2
        exact ⟨by rw [HN.out.1, HN.out.2]; rfl, Below.refl _ _⟩
      · have HN := Lib.hid (joinV_ok hr (by unfold joinOk; rw [hf, hn, decide_eq_true hbig]; rfl))
        have HJ2 := Lib.hid (HJ.out (by rw [fit_join, decide_eq_true_eq] at hf; exact hf))
        rw [hf] at HF
        clear hr hf HJ
        obtain ⟨y, hy⟩ : ∃ y, joinB xs = y := ⟨_, rfl⟩
        rw [hy] at HJ2 HN
        go_enter Try.func19, Try.ntmps19
        go_wp2_with (first | (go_at_call 26; refine HC.out.mono ?_; rintro e w' ⟨rfl, hw'⟩; obtain rfl := hw'.symm) | (go_at_call 27; refine HF.out.mono ?_; rintro e w' ⟨rfl, hw'⟩; obtain rfl := hw'.symm) | (go_at_call 28; refine HJ2.out.mono ?_; rintro e w' ⟨rfl, hB⟩))
        go_ret2
        exact ⟨by rw [HN.out.1, HN.out.2]; rfl, hB⟩
    · have HN := Lib.hid (joinV_big hr (by unfold joinOk; rw [hn, decide_eq_false hbig]; rfl))
      clear hr HJ HF
      go_enter Try.func19, Try.ntmps19
      go_wp2_with (first | (go_at_call 26; refine HC.out.mono ?_; rintro e w' ⟨rfl, hw'⟩; obtain rfl := hw'.symm))
      go_ret2
      exact ⟨by rw [HN.out.1, HN.out.2]; rfl, Below.refl _ _⟩
theorem tail_snoc (sep x : List UInt8) (r : List (List UInt8)) : Lib.joinTail sep (r ++ [x]) = Lib.joinTail sep r ++ (sep ++ x) := by
  unfold Lib.joinTail
  rw [List.map_append, List.flatten_append]
  simp
theorem data_inj {x y : ByteArray} (h : x.data.toList = y.data.toList) : x = y := by rw [← Lib.mk_data x, h, Lib.mk_data]
theorem joinB_data (l : List ByteArray) : (joinB l).data.toList = Lib.join (l.map (·.data.toList)) [32] := rfl
theorem joinB_snoc (y : ByteArray) (r : List ByteArray) (x : ByteArray) : joinB (y :: (r ++ [x])) = joinB (y :: r) ++ ⟨#[32]⟩ ++ x := by
  apply data_inj
  rw [joinB_data, List.map_cons, Lib.join_cons, List.map_append, List.map_cons, List.map_nil, tail_snoc]
  simp only [ByteArray.data_append, Array.toList_append]
  rw [joinB_data, List.map_cons, Lib.join_cons]
  simp
theorem joinB_one (x : ByteArray) : joinB [x] = x := by
  apply data_inj
  rw [joinB_data, List.map_cons, List.map_nil, Lib.join_one]
theorem joinB_take {xs : List ByteArray} {k : Nat} {x : ByteArray} (hx : xs[k]? = some x) (h0 : 0 < k) : joinB (xs.take (k + 1)) = joinB (xs.take k) ++ ⟨#[32]⟩ ++ x := by
  obtain ⟨hk, rfl⟩ := List.getElem?_eq_some_iff.1 hx
  rw [List.take_succ_eq_append_getElem hk]
  cases hl : xs.take k with
  | nil =>
    have h3 : (xs.take k).length = 0 := by rw [hl]; rfl
    rw [List.length_take] at h3
    omega
  | cons y r => exact joinB_snoc y r _
theorem joinB_take0 {xs : List ByteArray} {x : ByteArray} (hx : xs[0]? = some x) : joinB (xs.take 1) = x := by
  obtain ⟨hk, rfl⟩ := List.getElem?_eq_some_iff.1 hx
  rw [List.take_succ_eq_append_getElem hk, List.take_zero, List.nil_append, joinB_one]
theorem joinB_le {xs : List ByteArray} {k : Nat} (h : lens1 xs ≤ 65537) : (joinB (xs.take k)).size ≤ 65536 := by
  have h1 := lens1_le xs k
  cases hl : xs.take k with
  | nil => exact Nat.zero_le _
  | cons y r =>
    have := join_size y r
    rw [hl] at h1
    omega
set_option maxHeartbeats 1000000 in
theorem rjoin_some (b o c : Nat) (xs : List ByteArray) (hb : xs.length ≤ 16384) (hf : lens1 xs ≤ 65537) (hz : ∀ x ∈ xs, x.size ≤ maxLen) (w : World)
    (h1 : Hid (∀ j x, xs[j]? = some x → w.cell? ⟨b, o + j, none⟩ = some (.string x))) :
    Calls Try.prog 20 #[.slice (some ⟨b, o, none⟩) xs.length c] w fun e w' => e = .returned (.tuple #[.string (joinV xs), .int .i64 (joinF xs)]) ∧ w' = w := by
  have HV : Hid (joinOk xs = true) := Lib.hid (by unfold joinOk fitB; rw [decide_eq_true hb, decide_eq_true hf]; rfl)
  have HL := Lib.hid (fun k => joinB_le (xs := xs) (k := k) hf)
  obtain ⟨n, hn⟩ : ∃ n, xs.length = n := ⟨_, rfl⟩
  have HZ := Lib.hid hz
  clear hz hf
  rw [hn] at hb
  rw [hn]
  go_enter Try.func20, Try.ntmps20
  go_wp2
  go_loop [4] (fun i => ∃ k : Nat, k ≤ n ∧ i = .int .i64 k ∧ Hid (AllR xs k)) (fun i => n - (RowKit.intOf i).toNat)
  case atStart => exact ⟨0, Nat.zero_le _, rfl, Lib.hid fun j _ h => by omega⟩
  case round =>
    obtain ⟨k, hk, rfl, HA⟩ := hrel
    by_cases hlt : k < n
    · have hx0 : xs[k]? = some (xs[k]'(by omega)) := List.getElem?_eq_getElem (by omega)
      have e1 := h1.out k _ hx0
      obtain ⟨x, hx⟩ : ∃ x, xs[k]'(by omega) = x := ⟨_, rfl⟩
      rw [hx] at e1 hx0
      have HC := Lib.hid (fun W => rright_any x (HZ.out x (List.mem_of_getElem? hx0)) W)
      cases hr : rightB x
      · have HN := Lib.hid (joinV_bad (allR_no hx0 hr))
        rw [hr] at HC
        clear hr hx hx0
        go_wp2_with (go_at_call 14; refine (HC.out _).mono ?_; rintro e w' ⟨rfl, hw'⟩; obtain rfl := hw'.symm)
        go_ret2
        exact ⟨by rw [HN.out.1, HN.out.2]; rfl, rfl⟩
      · have HN := Lib.hid (HA.out.succ hx0 hr)
        rw [hr] at HC
        clear hr hx hx0
        go_wp2_with (go_at_call 14; refine (HC.out _).mono ?_; rintro e w' ⟨rfl, hw'⟩; obtain rfl := hw'.symm)
        go_round
        case rel => exact ⟨k + 1, by omega, by go_num, HN⟩
        case measure => simp [RowKit.intOf] <;> omega
    · obtain rfl : k = n := by omega
      have HN := Lib.hid (joinV_ok (xs := xs) (allR_all (by rw [hn]; exact HA.out)) HV.out)
      clear HA HV hlt
      go_wp2
      go_loop [5, 6] (fun v i => ∃ (k2 : Nat) (y : ByteArray), k2 ≤ k ∧ y.size ≤ 65536 ∧ i = .int .i64 k2 ∧ v = .string y ∧ Hid (joinB (xs.take k2) = y)) (fun _ i => k - (RowKit.intOf i).toNat)
      case atStart => exact ⟨0, ⟨#[]⟩, Nat.zero_le _, Nat.zero_le _, rfl, rfl, Lib.hid rfl⟩
      case round =>
        obtain ⟨k2, y, hk2, hy, rfl, rfl, HA⟩ := hrel
        by_cases hlt : k2 < k
        · have hx0 : xs[k2]? = some (xs[k2]'(by omega)) := List.getElem?_eq_getElem (by omega)
          have e1 := h1.out k2 _ hx0
          obtain ⟨x, hx⟩ : ∃ x, xs[k2]'(by omega) = x := ⟨_, rfl⟩
          rw [hx] at e1 hx0
          have HX := Lib.hid (HL.out (k2 + 1))
          cases k2 with
          | zero =>
            have hy0 : y = ⟨#[]⟩ := HA.out.symm
            subst hy0
            have HS := Lib.hid (joinB_take0 hx0)
            have hxs : x.size ≤ 65536 := by rw [← HS.out]; exact HX.out
            have hadd := run_string_add_sum (P := Try.prog) w ⟨#[]⟩ x (by show 0 + x.size ≤ _; omega)
            have e0 : (⟨#[]⟩ : ByteArray) ++ x = x := data_inj (by simp [ByteArray.data_append])
            rw [e0] at hadd
            rw [Nat.add_zero] at e1
            clear e0 hx hx0
            go_wp2
            go_round
            case rel => exact ⟨1, x, by omega, hxs, by go_num, rfl, HS⟩
            case measure => simp [RowKit.intOf] <;> omega
          | succ k2 =>
            have HS := Lib.hid (joinB_take hx0 (by omega))
            rw [HA.out] at HS
            have hxs : y.size + 1 + x.size ≤ 65536 := by
              have h5 := HX.out
              rw [HS.out, ByteArray.size_append, ByteArray.size_append] at h5
              exact h5
            have hadd1 := run_string_add_sum (P := Try.prog) w y ⟨#[32]⟩ (by show y.size + 1 ≤ _; omega)
            have hadd2 := run_string_add_sum (P := Try.prog) w (y ++ ⟨#[32]⟩) x (by rw [ByteArray.size_append]; show y.size + 1 + x.size ≤ _; omega)
            obtain ⟨y1, hy1⟩ : ∃ y1, y ++ ⟨#[32]⟩ = y1 := ⟨_, rfl⟩
            rw [hy1] at hadd1 hadd2 HS
            have hy2 := HX.out
            rw [HS.out] at hy2
            obtain ⟨y2, hy3⟩ : ∃ y2, y1 ++ x = y2 := ⟨_, rfl⟩
            rw [hy3] at hadd2 HS hy2
            clear hx hx0 hy1 hy3 HX
            go_wp2
            go_round
            case rel => exact ⟨k2 + 1 + 1, y2, by omega, hy2, by go_num, rfl, HS⟩
            case measure => simp [RowKit.intOf] <;> omega
        · obtain rfl : k2 = k := by omega
          have HM : Hid (joinB xs = y) := Lib.hid (by
            have h5 := HA.out
            rw [List.take_of_length_le (by omega)] at h5
            exact h5)
          go_wp2
          go_ret2
          exact ⟨by rw [HN.out.1, HN.out.2, HM.out]; rfl, rfl⟩
end Go.Proofs.Ytagpmjpkbnfhnaa
