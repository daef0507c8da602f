import Derived.Test.YtapfgfpkcnkgbaaDoorNumA
set_option linter.unusedVariables false
namespace Go.Proofs.YtapfgfpkcnkgbaaDoor
open Go.RowKit
theorem foldl_ge (l : List UInt8) : ∀ n : Nat, n ≤ l.foldl (fun n c => n * 10 + (c.toNat - 48)) n := by
  induction l with
  | nil => intro n; exact Nat.le_refl _
  | cons c l ih => intro n; exact Nat.le_trans (show n ≤ n * 10 + (c.toNat - 48) by omega) (ih _)
theorem decV_append (a b : List UInt8) : decV a ≤ decV (a ++ b) := by
  unfold decV; rw [List.foldl_append]; exact foldl_ge _ _
theorem Dig.below {l : List UInt8} {k n : Nat} (h : Dig l k n) : n ≤ decV l := by
  rw [h.1]
  have := decV_append (l.take k) (l.drop k)
  rwa [List.take_append_drop] at this
/-- The first k bytes are digits. -/
def Dgs (l : List UInt8) (k : Nat) : Prop := (l.take k).all isD = true
theorem Dgs.zero (l : List UInt8) : Dgs l 0 := rfl
theorem Dgs.step {s : ByteArray} {k : Nat} (h : Dgs s.data.toList k) (hk : k < s.size) (h1 : 48 ≤ s[k].toNat) (h2 : s[k].toNat ≤ 57) : Dgs s.data.toList (k + 1) := by
  unfold Dgs at *
  rw [take_snoc s k hk, all_snoc, h, (isD_iff _).2 ⟨h1, h2⟩]; rfl
theorem Dgs.done {s : ByteArray} (h : Dgs s.data.toList s.size) : s.data.toList.all isD = true := by
  have e : s.data.toList.take s.size = s.data.toList := List.take_of_length_le (by simp)
  unfold Dgs at h
  rwa [e] at h
theorem all_at {s : ByteArray} (h : s.data.toList.all isD = true) (k : Nat) (hk : k < s.size) : 48 ≤ s[k].toNat ∧ s[k].toNat ≤ 57 := by
  rw [List.all_eq_true] at h
  exact (isD_iff _).1 (h _ (by
    have : s.data.toList[k]'(by simpa using hk) = s[k] := rfl
    rw [← this]; exact List.getElem_mem _))
theorem rmul10 (n : Nat) (hn : n < 18446744073709551616) (w : World) :
    Calls Tryd.prog 41 #[.int .u64 n, .int .u64 10] w fun e w' => e = .returned (.tuple #[.int .u64 (cutV (n * 10) : Nat), .int .i64 (cutF (n * 10))]) ∧ w' = w :=
  rmul_any n 10 hn (by omega) w
theorem radd_int (n : Nat) (d : Int) (hn : n < 18446744073709551616) (h0 : 0 ≤ d) (hd : d ≤ 9) (w : World) :
    Calls Tryd.prog 42 #[.int .u64 n, .int .u64 d] w fun e w' => e = .returned (.tuple #[.int .u64 (cutV (n + d.toNat) : Nat), .int .i64 (cutF (n + d.toNat))]) ∧ w' = w := by
  obtain ⟨d, rfl⟩ : ∃ m : Nat, d = m := ⟨d.toNat, by omega⟩
  rw [Int.toNat_natCast]
  exact radd_any n d hn (by omega) w

set_option maxHeartbeats 1000000 in
theorem rparse_num (s : ByteArray) (w : World) (hs : s.size ≤ maxLen) (hl : lead s.data.toList = false) :
    Calls Tryd.prog 26 #[.string s] w fun e w' => e = .returned (.tuple #[.int .u64 (parseV s.data.toList : Nat), .int .i64 (parseF s.data.toList)]) ∧ w' = w := by
  unfold maxLen at hs
  obtain ⟨hne, h0, z, hz, hz1⟩ := lead_no hl
  have hb0 : ((s.size : Int) == 0) = false := by rw [beq_eq_false_iff_ne]; omega
  have HL := Lib.hid hl
  have hcase : (1 < s.size ∧ (((s[0]'h0).toNat : Int) == 48) = false) ∨ s.size ≤ 1 := by
    by_cases h1 : 1 < s.size
    · refine Or.inl ⟨h1, ?_⟩
      cases z with
      | false => exact hz
      | true => have := of_decide_eq_false (hz1 rfl); omega
    · exact Or.inr (by omega)
  clear hl hz hz1
  rcases hcase with ⟨h1, hz⟩ | h1
  all_goals
    go_enter Tryd.func26, Tryd.ntmps26
    go_wp2
    go_loop [4] (fun i => ∃ k : Nat, k ≤ s.size ∧ i = .int .i64 k ∧ Hid (Dgs s.data.toList k)) (fun i => s.size - (intOf i).toNat)
    case atStart => exact ⟨0, Nat.zero_le _, rfl, Dgs.zero _⟩
    case round =>
      obtain ⟨k, hk, rfl, HD⟩ := hrel
      by_cases hlt : k < s.size
      · by_cases hc : 48 ≤ s[k].toNat ∧ s[k].toNat ≤ 57
        · obtain ⟨hc1, hc2⟩ := hc
          go_wp2
          go_round
          case rel => exact ⟨k + 1, by omega, by go_num, HD.out.step hlt hc1 hc2⟩
          case measure => simp [intOf]; omega
        · have HB := Lib.hid (parse_bad _ (all_bad hlt hc) HL.out)
          go_wp2
          all_goals go_ret2
          all_goals exact ⟨ret_pair (by rw [HB.out.1]; rfl) HB.out.2.symm, rfl⟩
      · obtain rfl : k = s.size := by omega
        have HA := Lib.hid HD.out.done
        have HG := Lib.hid (parse_good _ HA.out HL.out)
        clear HD
        go_wp2
        go_loop [5, 6] (fun v i => ∃ k n : Nat, k ≤ s.size ∧ n < 18446744073709551616 ∧ i = .int .i64 k ∧ v = .int .u64 n ∧ Hid (Dig s.data.toList k n)) (fun _ i => s.size - (intOf i).toNat)
        case atStart => exact ⟨0, 0, Nat.zero_le _, by omega, rfl, rfl, Dig.zero _⟩
        case round =>
          obtain ⟨k, n, hk, hn, rfl, rfl, HD⟩ := hrel
          by_cases hlt : k < s.size
          · obtain ⟨hc1, hc2⟩ := all_at HA.out k hlt
            have HS := Lib.hid (HD.out.step hlt hc1 hc2)
            by_cases hm : n * 10 < 18446744073709551616
            · have e2 : (cutF (n * 10) != 0) = false := by rw [cutF_yes hm]; rfl
              have E1 := Lib.hid (cutV_yes hm)
              have hcv := cutV_lt (n * 10)
              by_cases ha : n * 10 + (s[k].toNat - 48) < 18446744073709551616
              · have e3 : (cutF (cutV (n * 10) + (s[k].toNat - 48)) != 0) = false := by rw [E1.out, cutF_yes ha]; rfl
                have E4 := Lib.hid (show cutV (cutV (n * 10) + (s[k].toNat - 48)) = n * 10 + (s[k].toNat - 48) by rw [E1.out, cutV_yes ha])
                go_wp2_with (first
                  | (go_at_call 41; refine (rmul10 _ (by assumption) _).mono ?_; rintro e w' ⟨rfl, rfl⟩)
                  | (go_at_call 42; refine (radd_int _ _ (by assumption) (by omega) (by omega) _).mono ?_; rintro e w' ⟨rfl, rfl⟩))
                go_round
                case rel => exact ⟨k + 1, n * 10 + (s[k].toNat - 48), by omega, by assumption, by go_num, by rw [E4.out], HS.out⟩
                case measure => simp [intOf]; omega
              · have hno := Nat.lt_of_lt_of_le (Nat.not_lt.1 ha) (Nat.le_refl _)
                have e3 : (cutF (cutV (n * 10) + (s[k].toNat - 48)) != 0) = true := by rw [E1.out, cutF_no ha]; rfl
                have e4 : cutF (cutV (n * 10) + (s[k].toNat - 48)) = 6 := by rw [E1.out, cutF_no ha]
                have E4 := Lib.hid e4
                have HB := Lib.hid (show ¬ decV s.data.toList < 18446744073709551616 from fun x => ha (Nat.lt_of_le_of_lt HS.out.below x))
                clear e4
                go_wp2_with (first
                  | (go_at_call 41; refine (rmul10 _ (by assumption) _).mono ?_; rintro e w' ⟨rfl, rfl⟩)
                  | (go_at_call 42; refine (radd_int _ _ (by assumption) (by omega) (by omega) _).mono ?_; rintro e w' ⟨rfl, rfl⟩))
                go_ret2
                exact ⟨ret_pair (by rw [HG.out.1, cutV_no HB.out]; rfl) (by rw [HG.out.2, cutF_no HB.out, E4.out]), rfl⟩
            · have e2 : (cutF (n * 10) != 0) = true := by rw [cutF_no hm]; rfl
              have E2 := Lib.hid (cutF_no hm)
              have HB := Lib.hid (show ¬ decV s.data.toList < 18446744073709551616 from fun x => by have := HS.out.below; omega)
              go_wp2_with (first
                  | (go_at_call 41; refine (rmul10 _ (by assumption) _).mono ?_; rintro e w' ⟨rfl, rfl⟩))
              go_ret2
              exact ⟨ret_pair (by rw [HG.out.1, cutV_no HB.out]; rfl) (by rw [HG.out.2, cutF_no HB.out, E2.out]), rfl⟩
          · obtain rfl : k = s.size := by omega
            have HN := Lib.hid HD.out.done.1
            have HV := Lib.hid (cutV_yes hn)
            have HF := Lib.hid (cutF_yes hn)
            go_wp2
            go_ret2
            exact ⟨ret_pair (by rw [HG.out.1, ← HN.out, HV.out]) (by rw [HG.out.2, ← HN.out, HF.out]), rfl⟩
theorem rparse_any (s : ByteArray) (hs : s.size ≤ maxLen) (w : World) :
    Calls Tryd.prog 26 #[.string s] w fun e w' => e = .returned (.tuple #[.int .u64 (parseV s.data.toList : Nat), .int .i64 (parseF s.data.toList)]) ∧ w' = w := by
  by_cases hl : lead s.data.toList = true
  · have e1 : parseV s.data.toList = 0 := by unfold parseV; rw [if_pos hl]
    have e2 : parseF s.data.toList = 3 := by unfold parseF; rw [if_pos hl]
    rw [e1, e2]
    unfold maxLen at hs
    by_cases h0 : s.size = 0
    · have hb0 : ((s.size : Int) == 0) = true := by rw [h0]; rfl
      clear hl e1 e2 h0
      go_enter Tryd.func26, Tryd.ntmps26
      go_wp2
      go_ret2
      exact ⟨rfl, rfl⟩
    · have hb0 : ((s.size : Int) == 0) = false := by rw [beq_eq_false_iff_ne]; omega
      obtain ⟨hne, h1, h0', hz⟩ := lead_yes hl h0
      clear hl e1 e2 h0
      go_enter Tryd.func26, Tryd.ntmps26
      go_wp2
      go_ret2
      exact ⟨rfl, rfl⟩
  · exact rparse_num s w hs (by simpa using hl)
def intV (l : List UInt8) (most : Int) : Int := if parseF l = 0 ∧ (parseV l : Int) ≤ most then (parseV l : Int) else 0
def intF (l : List UInt8) (most : Int) : Int := if parseF l = 0 then if (parseV l : Int) ≤ most then 0 else 2 else parseF l