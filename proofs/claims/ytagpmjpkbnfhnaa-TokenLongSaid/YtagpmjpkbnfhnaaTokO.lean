import Derived.Test.YtagpmjpkbnfhnaaTokN
set_option linter.unusedVariables false
set_option linter.unusedSimpArgs false
namespace Go.Proofs.Ytagpmjpkbnfhnaa
open Go.RowKit
/-- n times the letter x. -/
def exes (n : Nat) : ByteArray := ⟨(List.replicate n (120 : UInt8)).toArray⟩
theorem exes_size (n : Nat) : (exes n).size = n := by
  unfold exes
  rw [size_mk, List.length_replicate]
theorem exes_right {n : Nat} (h : 0 < n) : rightB (exes n) = true := by
  unfold rightB
  rw [exes_size, decide_eq_true h, Bool.and_true, List.all_eq_true]
  intro c hc
  have e := List.eq_of_mem_replicate (show c ∈ List.replicate n (120 : UInt8) from hc)
  rw [e]
  rfl
theorem exes_words {n : Nat} (h : 0 < n) : wordsOf (exes n) = some [exes n] := by
  have h1 := words_join [exes n] (fun x hx => by rw [List.mem_singleton] at hx; rw [hx]; exact exes_right h)
  rw [joinB_one] at h1
  exact h1
theorem exes_in {n : Nat} (h : 0 < n) (hn : n ≤ 65536) : wordsV (exes n) = [exes n] ∧ wordsF (exes n) = 0 :=
  words_some (by rw [exes_size]; exact hn) (exes_words h) (by simp)
theorem exes_out {n : Nat} (hn : 65536 < n) : wordsV (exes n) = [] ∧ wordsF (exes n) = 5 :=
  words_long (by rw [exes_size]; exact hn)
theorem exes_lens (n : Nat) : lens1 [exes n] = n + 1 := by
  unfold lens1
  simp [exes_size]
theorem exes_join {n : Nat} (h : 0 < n) (hn : n ≤ 65536) : joinF [exes n] = 0 :=
  (joinV_ok (by rw [List.all_cons, exes_right h]; rfl) (by unfold joinOk fitB; rw [exes_lens, decide_eq_true (show n + 1 ≤ 65537 by omega)]; simp)).2
theorem exes_nojoin {n : Nat} (hn : 65536 < n) : joinF [exes n] = 5 :=
  (joinV_big (by rw [List.all_cons, exes_right (by omega)]; rfl) (by unfold joinOk fitB; rw [exes_lens, decide_eq_false (show ¬ n + 1 ≤ 65537 by omega), Bool.and_false])).2
/-- Where the loop over the row stands: the first k are the letter x. -/
def XsAt (n B k : Nat) (w : World) : Prop := ∀ (j : Nat), j < n → w.cell? ⟨B, j, none⟩ = some (.int .u8 (if j < k then 120 else 0)) ∧ w.frozen? ⟨B, j, none⟩ = false
theorem xsAt_zero {w : World} {B n B0 : Nat} (h : w.ownsRow B0 5 1 (.slice (some ⟨B, 0, none⟩) n n) n (madeCells #[.int .u8 0] n).toList) : XsAt n B 0 w := by
  intro j hj
  refine ⟨?_, h.frozenAt j⟩
  rw [h.cellAt j (by omega), toList_madeCells_one, List.getElem?_replicate, if_pos (by omega), if_neg (by omega)]
theorem xsAt_set {w : World} {B n k : Nat} (h : XsAt n B k w) (hk : k < n) : XsAt n B (k + 1) (w.setCell ⟨B, k, none⟩ (.int .u8 120)) := by
  intro j hj
  obtain ⟨h1, h2⟩ := h j hj
  refine ⟨?_, by rw [World.frozen?_setCell]; exact h2⟩
  by_cases e : j = k
  · subst e
    rw [World.cell?_setCell_same _ _ _ h1, if_pos (by omega)]
  · rw [World.cell?_setCell_other _ _ _ _ (fun e3 => e (congrArg Addr.off e3).symm), h1]
    by_cases e2 : j < k
    · rw [if_pos e2, if_pos (by omega)]
    · rw [if_neg e2, if_neg (by omega)]
theorem xsAt_on {w w1 : World} {B n k : Nat} (hb : Below w.heap.size w w1) (h : XsAt n B k w) : XsAt n B k w1 := fun j hj =>
  ⟨cell_on hb (h j hj).1, frozen_on hb (h j hj).1 (h j hj).2⟩
theorem xsAt_back {w : World} {B n : Nat} (h : XsAt n B n w) : (convert 38 9 (.slice (some ⟨B, 0, none⟩) n n)).run Try.prog w = .ok (.string (exes n)) w := by
  have h1 := run_convert_bytes_back (P := Try.prog) w 38 9 5 ⟨B, 0, none⟩ n (List.replicate n (120 : UInt8)) Try.underlying38 Try.underlying5 Try.underlying9 (fun j hj => by
    rw [List.length_replicate] at hj
    rw [Addr.add_lit, Nat.zero_add, (h j hj).1, if_pos hj, List.getElem_replicate]
    rfl)
  rw [List.length_replicate] at h1
  exact h1
theorem one_at (w : World) (x : ByteArray) (t : TypeId) : StrsAt (w.alloc (.cells #[.string x] t)) (.slice (some ⟨w.heap.size, 0, none⟩) 1 1) [x] := by
  refine ⟨_, 1, rfl, Nat.le_refl _, fun _ => ⟨w.heap.size, 0, rfl, fun j z hz => ?_⟩⟩
  rw [Nat.zero_add, World.cell?_alloc_new]
  match j, hz with
  | 0, hz => simpa using hz
theorem below_grown {w w' : World} (hg : w.grownBy w' none) : Below w.heap.size w w' := (Below.refl _ _).grown hg (Nat.le_refl _) (fun k hk => by cases hk)
set_option maxHeartbeats 2000000 in
theorem longlaw_in (N : Int) (n : Nat) (HN0 : Hid (N = n)) (h1 : 65533 ≤ N) (h2 : N ≤ 65539) (m : Nat) (F G : Int) (hc : (65536 < N ∧ F = 5 ∧ G = 5 ∧ m = 0) ∨ (N ≤ 65536 ∧ F = 0 ∧ G = 0 ∧ m = 1))
    (HW : Hid (∀ W, Calls Try.prog 8 #[.string (exes n)] W fun e w' => ∃ a c, e = .returned (.tuple #[.slice a m c, .int .i64 F]) ∧ Below W.heap.size W w'))
    (HJ : Hid (∀ W v, StrsAt W v [exes n] → Calls Try.prog 19 #[v] W fun e w' => ∃ J, e = .returned (.tuple #[.string J, .int .i64 G]) ∧ Below W.heap.size W w')) (w : World) :
    Calls Try.prog 6 #[.int .i64 N] w fun e w' => e = .returned (.bool true) ∧ Below w.heap.size w w' := by
  have HA := Lib.hid (fun W => alive_any W)
  obtain ⟨i0, hi, hz0, hz1, hz2⟩ := info_parts info5
  obtain ⟨X, hX⟩ : ∃ X, exes n = X := ⟨_, rfl⟩
  rw [hX] at HW HJ
  go_enter Try.func6, Try.ntmps6
  go_wp2_with (at_make; refine wpList_make_full _ rfl _ _ 38 rfl w.heap.size 5 i0 (.int .u8 0) 1 Try.underlying38 hi hz0 hz1 .i64 .i64 _ _ n rfl rfl HN0.out HN0.out ?a1 ?a2 ?a3 ?_)
  case a1 => have := HN0.out; rw [hz2]; omega
  case a2 => have := HN0.out; unfold maxLen; omega
  case a3 => exact Nat.le_refl _
  intro w1 hown hgrow
  have HX0 := Lib.hid (xsAt_zero hown)
  have HB0 := Lib.hid (below_grown hgrow)
  clear hown hgrow
  go_wp2
  go_loopw [4] (fun i wr => ∃ k : Nat, k ≤ n ∧ i = .int .i64 k ∧ Hid (XsAt n w.heap.size k wr) ∧ Hid (Below w.heap.size w wr)) (fun i _ => n - (RowKit.intOf i).toNat)
  case atStart => exact ⟨0, Nat.zero_le _, rfl, HX0, HB0⟩
  case round =>
    obtain ⟨k, hk, rfl, HU, HB⟩ := hrel
    have HK := Lib.hid hk
    clear hk
    by_cases hlt : (k : Int) < N
    · have hkn : k < n := by have := HN0.out; omega
      obtain ⟨e1, e2⟩ := HU.out k hkn
      have HN := Lib.hid (xsAt_set HU.out hkn)
      go_wp2
      go_roundw
      case rel => exact ⟨k + 1, by have := HN0.out; omega, by go_num, HN, Lib.hid (HB.out.setCell (p := ⟨w.heap.size, k, none⟩) (Nat.le_refl _) _)⟩
      case measure => have h9 := HN0.out; simp only [RowKit.intOf]; omega
    · obtain rfl : k = n := by have := HN0.out; have := HK.out; omega
      have hback := xsAt_back HU.out
      rw [hX] at hback
      rcases hc with ⟨hc1, rfl, rfl, rfl⟩ | ⟨hc1, rfl, rfl, rfl⟩
      all_goals
        go_wp2_with (first
          | (go_at_call 8; refine (HW.out _).mono ?_; rintro e w2 ⟨a2, c2, rfl, hB2⟩; have hback2 := xsAt_back (xsAt_on hB2 HU.out); rw [hX] at hback2; have HB2 := Lib.hid (on_trans HB.out hB2); clear hB2)
          | (go_at_call 19; refine (HJ.out _ _ (one_at _ _ _)).mono ?_; rintro e w3 ⟨J, rfl, hB3⟩; have HB3 := Lib.hid (on_trans HB2.out (((Below.refl _ _).alloc (Nat.le_refl _) _).trans (hB3.mono (by simp)))); clear hB3)
          | (go_at_call 7; refine (HA.out _).mono ?_; rintro e w7 ⟨rfl, hB7⟩; have HB7 := Lib.hid (on_trans HB3.out hB7); clear hB7))
        go_ret
        exact ⟨rfl, HB7.out⟩
set_option maxHeartbeats 400000 in
theorem longlaw_out (n : Int) (h : n < 65533 ∨ 65539 < n) (h1 : -9223372036854775808 ≤ n) (h2 : n ≤ 9223372036854775807) (w : World) :
    Calls Try.prog 6 #[.int .i64 n] w fun e w' => e = .returned (.bool true) ∧ Below w.heap.size w w' := by
  have HA := Lib.hid (fun W => alive_any W)
  clear h1 h2
  have hd : n < 65533 ∨ (65533 ≤ n ∧ 65539 < n) := by omega
  clear h
  rcases hd with hd | ⟨hd1, hd2⟩
  all_goals
    go_enter Try.func6, Try.ntmps6
    go_wp2_with (go_at_call 7; refine (HA.out _).mono ?_; rintro e w6 ⟨rfl, hB6⟩)
    go_ret
    exact ⟨rfl, hB6⟩
theorem longlaw_any (n : Int) (h1 : -9223372036854775808 ≤ n) (h2 : n ≤ 9223372036854775807) (w : World) :
    Calls Try.prog 6 #[.int .i64 n] w fun e w' => e = .returned (.bool true) ∧ Below w.heap.size w w' := by
  by_cases h : n < 65533 ∨ 65539 < n
  · exact longlaw_out n h h1 h2 w
  · obtain ⟨k, rfl⟩ : ∃ k : Nat, n = k := ⟨n.toNat, by omega⟩
    have hz : (exes k).size ≤ 4000000 := by rw [exes_size]; omega
    have hz2 : (exes k).size ≤ maxLen := Nat.le_trans hz (by unfold maxLen; omega)
    have hJ : ∀ W v, StrsAt W v [exes k] → Calls Try.prog 19 #[v] W fun e w' => ∃ J, e = .returned (.tuple #[.string J, .int .i64 (joinF [exes k])]) ∧ Below W.heap.size W w' := fun W v hv =>
      (tjoin_any (by simp) (fun x hx => by rw [List.mem_singleton] at hx; rw [hx]; exact hz) W hv).mono fun e w' hh => ⟨_, hh.1, hh.2⟩
    have hW : ∀ W, Calls Try.prog 8 #[.string (exes k)] W fun e w' => ∃ a c, e = .returned (.tuple #[.slice a (wordsV (exes k)).length c, .int .i64 (wordsF (exes k))]) ∧ Below W.heap.size W w' := fun W =>
      (twords_any (exes k) hz2 W).mono fun e w' ⟨v, h3, h4, h5⟩ => by
        obtain ⟨a, c, rfl, _⟩ := h4
        exact ⟨a, c, h3, h5⟩
    by_cases hk : k ≤ 65536
    · have e1 := exes_in (n := k) (by omega) hk
      rw [e1.1, e1.2] at hW
      rw [exes_join (by omega) hk] at hJ
      exact longlaw_in k k (Lib.hid rfl) (by omega) (by omega) 1 0 0 (Or.inr ⟨by omega, rfl, rfl, rfl⟩) (Lib.hid hW) (Lib.hid hJ) w
    · have e1 := exes_out (n := k) (by omega)
      rw [e1.1, e1.2] at hW
      rw [exes_nojoin (by omega)] at hJ
      exact longlaw_in k k (Lib.hid rfl) (by omega) (by omega) 0 5 5 (Or.inl ⟨by omega, rfl, rfl, rfl⟩) (Lib.hid hW) (Lib.hid hJ) w
end Go.Proofs.Ytagpmjpkbnfhnaa
