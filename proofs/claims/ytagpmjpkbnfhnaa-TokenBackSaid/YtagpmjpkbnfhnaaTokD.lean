import Derived.Test.YtagpmjpkbnfhnaaTokB
import Derived.Test.YtagpmjpkbnfhnaaShelf
import Derived.BigQuiet
import Derived.RegionTactic
set_option linter.unusedVariables false
set_option linter.unusedSimpArgs false
namespace Go.Proofs.Ytagpmjpkbnfhnaa
open Go.RowKit
/-- MaxLen lies below the world's end and holds some int: strings.Cut's contract asks it, at a separator of one byte no call reads it. -/
def MaxI (w : World) : Prop := ∃ m : Int, w.cell? ⟨0, 0, none⟩ = some (.int .i64 m)
theorem maxI_on {W w1 : World} (hb : Below W.heap.size W w1) (h : MaxI W) : MaxI w1 := by
  obtain ⟨m, hm⟩ := h
  exact ⟨m, cell_on hb hm⟩
theorem size_mk (l : List UInt8) : (ByteArray.mk l.toArray).size = l.length := by simp [ByteArray.size]
theorem bare_any (s : ByteArray) (hs : s.size ≤ maxLen) (w : World) :
    Calls Try.prog 23 #[.string s] w fun e w' => e = .returned (.string (bareB s)) ∧ w' = w := by
  have HC := Lib.hid (fun W => Try.strings_TrimSuffix s ⟨#[13]⟩ W (by unfold maxLen at hs; omega))
  go_enter Try.func23, Try.ntmps23
  go_wp2_with (go_at_call 29; refine (HC.out _).mono ?_; rintro e w' ⟨rfl, rfl⟩)
  go_ret
  exact ⟨rfl, rfl⟩
theorem cut_eq_hit {s : ByteArray} {i : Nat} (h : nl s = i) : (⟨(Lib.cut s.data.toList [10]).1.toArray⟩ : ByteArray) = s.extract 0 i ∧ (⟨(Lib.cut s.data.toList [10]).2.1.toArray⟩ : ByteArray) = s.extract (i + 1) s.size ∧ (Lib.cut s.data.toList [10]).2.2 = true :=
  Lib.cutB_hit s ⟨#[10]⟩ i h
theorem cut_eq_miss {s : ByteArray} (h : nl s < 0) : (Lib.cut s.data.toList [10]).2.2 = false := by
  have h' : Lib.index s.data.toList [10] < 0 := h
  unfold Lib.cut
  rw [if_neg (by omega)]
theorem cutL_hit {s : ByteArray} {i : Nat} (h : nl s = i) : cutL s = bareB (s.extract 0 i) ∧ cutR s = s.extract (i + 1) s.size ∧ cutIs s = true := by
  unfold cutL cutR cutIs
  rw [h, if_pos (by omega), if_pos (by omega), decide_eq_true (by omega)]
  exact ⟨rfl, rfl, rfl⟩
theorem cutL_miss {s : ByteArray} (h : nl s < 0) : cutL s = ⟨#[]⟩ ∧ cutR s = s ∧ cutIs s = false := by
  unfold cutL cutR cutIs
  rw [if_neg (by omega), if_neg (by omega), decide_eq_false (by omega)]
  exact ⟨rfl, rfl, rfl⟩
set_option maxHeartbeats 400000 in
theorem tcut_any (s : ByteArray) (hs : s.size ≤ 4000000) (w : World) (hm : MaxI w) :
    Calls Try.prog 17 #[.string s] w fun e w' => e = .returned (.tuple #[.string (cutL s), .string (cutR s), .bool (cutIs s)]) ∧ Below w.heap.size w w' := by
  obtain ⟨m, hm⟩ := hm
  have HC := Lib.hid (Try.strings_Cut s ⟨#[10]⟩ m w (by omega) hm)
  rcases nl_cases s with ⟨h, _⟩ | ⟨i, hi, h, _⟩
  · obtain ⟨e1, e2, e3⟩ := cutL_miss (s := s) (by omega)
    rw [e1, e2, e3]
    have HE := Lib.hid (cut_eq_miss (s := s) (by omega))
    obtain ⟨s1, hs1⟩ : ∃ s1, s1 = (⟨(Lib.cut s.data.toList [10]).1.toArray⟩ : ByteArray) := ⟨_, rfl⟩
    obtain ⟨s2, hs2⟩ : ∃ s2, s2 = (⟨(Lib.cut s.data.toList [10]).2.1.toArray⟩ : ByteArray) := ⟨_, rfl⟩
    have HC2 : Hid (Calls Try.prog 24 #[.string s, .string ⟨#[10]⟩] w fun e w' => e = .returned (.tuple #[.string s1, .string s2, .bool false]) ∧ ∃ n, w' = w.drewN n) := by
      rw [hs1, hs2, ← HE.out]; exact HC
    clear HC HE hs1 hs2 e1 e2 e3
    go_enter Try.func17, Try.ntmps17
    go_wp2_with (go_at_call 24; refine HC2.out.mono ?_; rintro e w' ⟨rfl, n, rfl⟩)
    go_ret3
    exact ⟨rfl, below_drewN (Below.refl _ _) n⟩
  · obtain ⟨e1, e2, e3⟩ := cutL_hit h
    rw [e1, e2, e3]
    obtain ⟨f1, f2, f3⟩ := cut_eq_hit h
    have HB := Lib.hid (fun W => bare_any (s.extract 0 i) (by rw [ByteArray.size_extract]; unfold maxLen; omega) W)
    have HC2 : Hid (Calls Try.prog 24 #[.string s, .string ⟨#[10]⟩] w fun e w' => e = .returned (.tuple #[.string (s.extract 0 i), .string (s.extract (i + 1) s.size), .bool true]) ∧ ∃ n, w' = w.drewN n) := by
      rw [← f1, ← f2, ← f3]; exact HC
    clear HC e1 e2 e3 f1 f2 f3 h
    obtain ⟨s1, hs1⟩ : ∃ s1, s1 = s.extract 0 i := ⟨_, rfl⟩
    obtain ⟨s2, hs2⟩ : ∃ s2, s2 = s.extract (i + 1) s.size := ⟨_, rfl⟩
    obtain ⟨s3, hs3⟩ : ∃ s3, s3 = bareB (s.extract 0 i) := ⟨_, rfl⟩
    rw [← hs2, ← hs1] at HC2
    rw [← hs3] at HB ⊢
    rw [← hs1] at HB
    rw [← hs2]
    clear hs1 hs2 hs3
    go_enter Try.func17, Try.ntmps17
    go_wp2_with (first | (go_at_call 24; refine HC2.out.mono ?_; rintro e w' ⟨rfl, n, rfl⟩) | (go_at_call 23; refine (HB.out _).mono ?_; rintro e w' ⟨rfl, rfl⟩))
    go_ret3
    exact ⟨rfl, below_drewN (Below.refl _ _) n⟩
theorem trim_snoc (a : List UInt8) (c : UInt8) : Lib.trimSuffix (a ++ [c]) [13] = if c = 13 then a else a ++ [c] := by
  unfold Lib.trimSuffix Lib.hasSuffix
  by_cases h : c = 13
  · subst h
    rw [if_pos rfl, if_pos (List.isSuffixOf_iff_suffix.2 ⟨a, rfl⟩)]
    simp
  · rw [if_neg h, if_neg]
    intro hs
    obtain ⟨b, hb⟩ := List.isSuffixOf_iff_suffix.1 hs
    have := (List.append_inj' hb rfl).2
    simp at this
    exact h this.symm
theorem bare_cr {s : ByteArray} {j : Nat} (hj : j < s.size) (h : s[j] = 13) : bareB (s.extract 0 (j + 1)) = s.extract 0 j := by
  unfold bareB
  rw [ext_snoc s (Nat.zero_le _) hj, trim_snoc, if_pos h, Lib.mk_data]
theorem bare_nocr {s : ByteArray} {j : Nat} (hj : j < s.size) (h : s[j] ≠ 13) : bareB (s.extract 0 (j + 1)) = s.extract 0 (j + 1) := by
  unfold bareB
  rw [ext_snoc s (Nat.zero_le _) hj, trim_snoc, if_neg h, ← ext_snoc s (Nat.zero_le _) hj, Lib.mk_data]
theorem bare_zero {s : ByteArray} : bareB (s.extract 0 0) = ByteArray.empty := by
  unfold bareB
  rw [ext_nil, trim_no [] (by simp)]
  rfl
theorem byte_eq {c d : UInt8} (h : c = d) : ((c.toNat : Int) == (d.toNat : Int)) = true := by subst h; simp
theorem byte_ne {c d : UInt8} (h : c ≠ d) : ((c.toNat : Int) == (d.toNat : Int)) = false := by
  rw [beq_eq_false_iff_ne]
  intro x
  exact h (UInt8.toNat_inj.1 (by omega))
theorem byte_bne {c d : UInt8} (h : c ≠ d) : ((c.toNat : Int) != (d.toNat : Int)) = true := by
  rw [bne_iff_ne]
  intro x
  exact h (UInt8.toNat_inj.1 (by omega))
theorem byte_beq {c d : UInt8} (h : c = d) : ((c.toNat : Int) != (d.toNat : Int)) = false := by subst h; simp
set_option maxHeartbeats 1000000 in
theorem rcut_any (s : ByteArray) (hs : s.size ≤ 4000000) (w : World) :
    Calls Try.prog 18 #[.string s] w fun e w' => e = .returned (.tuple #[.string (cutL s), .string (cutR s), .bool (cutIs s)]) ∧ Below w.heap.size w w' := by
  go_enter Try.func18, Try.ntmps18
  go_wp2
  go_loop [5] (fun i => ∃ k : Nat, k ≤ s.size ∧ i = .int .i64 k ∧ Hid (NoLf s k)) (fun i => s.size - (RowKit.intOf i).toNat)
  case atStart => exact ⟨0, Nat.zero_le _, rfl, Lib.hid fun j _ h => by omega⟩
  case round =>
    obtain ⟨k, hk, rfl, HA⟩ := hrel
    by_cases hlt : k < s.size
    · by_cases he : s[k] = 10
      · have h10 : ((s[k].toNat : Int) != 10) = false := byte_beq (d := 10) he
        have HX := Lib.hid (cutL_hit (nl_some hlt HA.out he))
        clear he
        cases k with
        | zero =>
          have HE := Lib.hid (bare_zero (s := s))
          go_wp2
          go_region
          all_goals go_wp2
          all_goals go_ret3
          all_goals refine ⟨?_, (Below.refl _ _).drew⟩
          all_goals (rw [HX.out.1, HX.out.2.1, HX.out.2.2, HE.out]; rfl)
        | succ j =>
          by_cases hc : s[j] = 13
          · have h13 : ((s[j].toNat : Int) == 13) = true := byte_eq (d := 13) hc
            have HE := Lib.hid (bare_cr (s := s) (by omega) hc)
            clear hc
            go_wp2
            go_region
            all_goals go_wp2
            all_goals go_ret3
            all_goals refine ⟨?_, (Below.refl _ _).drew⟩
            all_goals (rw [HX.out.1, HX.out.2.1, HX.out.2.2, HE.out]; rfl)
          · have h13 : ((s[j].toNat : Int) == 13) = false := byte_ne (d := 13) hc
            have HE := Lib.hid (bare_nocr (s := s) (by omega) hc)
            clear hc
            go_wp2
            go_region
            all_goals go_wp2
            all_goals go_ret3
            all_goals refine ⟨?_, (Below.refl _ _).drew⟩
            all_goals (rw [HX.out.1, HX.out.2.1, HX.out.2.2, HE.out]; rfl)
      · have h10 : ((s[k].toNat : Int) != 10) = true := byte_bne (d := 10) he
        have HN := Lib.hid (HA.out.succ hlt he)
        clear he
        go_wp2
        go_round
        case rel => exact ⟨k + 1, by omega, by go_num, HN⟩
        case measure => simp [RowKit.intOf] <;> omega
    · obtain rfl : k = s.size := by omega
      have HX := Lib.hid (cutL_miss (s := s) (by rw [nl_none HA.out]; omega))
      go_wp2
      go_ret3
      refine ⟨?_, Below.refl _ _⟩
      rw [HX.out.1, HX.out.2.1, HX.out.2.2]
      rfl
end Go.Proofs.Ytagpmjpkbnfhnaa
