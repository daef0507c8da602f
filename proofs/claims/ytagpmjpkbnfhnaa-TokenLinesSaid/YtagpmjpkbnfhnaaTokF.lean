import Derived.Test.YtagpmjpkbnfhnaaTokE
set_option linter.unusedVariables false
set_option linter.unusedSimpArgs false
namespace Go.Proofs.Ytagpmjpkbnfhnaa
open Go.RowKit
theorem str_ne {x y : ByteArray} (h : x ≠ y) : (x.toList == y.toList) = false := by
  rw [beq_eq_false_iff_ne, Lib.toList_data, Lib.toList_data]
  intro e
  exact h (by rw [← Lib.mk_data x, e, Lib.mk_data])
set_option maxHeartbeats 1000000 in
theorem same_some (b1 o1 c1 b2 o2 c2 : Nat) (xs ys : List ByteArray) (hl : xs.length = ys.length) (hb : xs.length ≤ 4000000) (w : World)
    (h1 : Hid (∀ j x, xs[j]? = some x → w.cell? ⟨b1, o1 + j, none⟩ = some (.string x))) (h2 : Hid (∀ j y, ys[j]? = some y → w.cell? ⟨b2, o2 + j, none⟩ = some (.string y))) :
    Calls Try.prog 10 #[.slice (some ⟨b1, o1, none⟩) xs.length c1, .slice (some ⟨b2, o2, none⟩) ys.length c2] w fun e w' => e = .returned (.bool (decide (xs = ys))) ∧ Below w.heap.size w w' := by
  obtain ⟨n, hn⟩ : ∃ n, xs.length = n := ⟨_, rfl⟩
  have hn2 : ys.length = n := by omega
  rw [hn, hn2]
  go_enter Try.func10, Try.ntmps10
  go_wp2
  go_loopw [5] (fun i wr => ∃ k : Nat, k ≤ n ∧ i = .int .i64 k ∧ Hid (∀ j : Nat, j < k → xs[j]? = ys[j]?) ∧ Hid (Below w.heap.size w wr)) (fun i _ => n - (RowKit.intOf i).toNat)
  case atStart => exact ⟨0, Nat.zero_le _, rfl, Lib.hid fun j h => by omega, Lib.hid (Below.refl _ _)⟩
  case round =>
    obtain ⟨k, hk, rfl, HA, HB⟩ := hrel
    by_cases hlt : k < n
    · have hx0 : xs[k]? = some (xs[k]'(by omega)) := List.getElem?_eq_getElem (by omega)
      have hy0 : ys[k]? = some (ys[k]'(by omega)) := List.getElem?_eq_getElem (by omega)
      have e1 := cell_on HB.out (h1.out k _ hx0)
      have e2 := cell_on HB.out (h2.out k _ hy0)
      obtain ⟨x, hx⟩ : ∃ x, xs[k]'(by omega) = x := ⟨_, rfl⟩
      obtain ⟨y, hy⟩ : ∃ y, ys[k]'(by omega) = y := ⟨_, rfl⟩
      rw [hx] at e1 hx0
      rw [hy] at e2 hy0
      by_cases hxy : x = y
      · subst hxy
        have HN : Hid (∀ j : Nat, j < k + 1 → xs[j]? = ys[j]?) := Lib.hid fun j hj => by
          by_cases ej : j = k
          · rw [ej, hx0, hy0]
          · exact HA.out j (by omega)
        clear hx0 hy0 hx hy
        go_wp2
        go_region
        all_goals go_wp2
        all_goals go_roundw
        case rel => exact ⟨k + 1, by omega, by go_num, HN, Lib.hid HB.out.drew⟩
        case measure => simp [RowKit.intOf] <;> omega
      · have hne := str_ne hxy
        have HN : Hid (decide (xs = ys) = false) := Lib.hid (decide_eq_false fun e => hxy (by rw [e, hy0] at hx0; exact (Option.some.inj hx0).symm))
        clear hx0 hy0 hx hy hxy
        go_wp2
        go_region
        all_goals go_wp2
        all_goals go_ret
        all_goals exact ⟨by rw [HN.out]; rfl, HB.out.drew⟩
    · obtain rfl : k = n := by omega
      have HN : Hid (decide (xs = ys) = true) := Lib.hid (decide_eq_true (List.ext_getElem? fun j => by
        by_cases hj : j < k
        · exact HA.out j hj
        · rw [List.getElem?_eq_none (by omega), List.getElem?_eq_none (by omega)]))
      go_wp2
      go_ret
      exact ⟨by rw [HN.out]; rfl, HB.out⟩
set_option maxHeartbeats 400000 in
theorem same_len (a1 a2 : Option Addr) (n m c1 c2 : Nat) (h : n ≠ m) (w : World) :
    Calls Try.prog 10 #[.slice a1 n c1, .slice a2 m c2] w fun e w' => e = .returned (.bool false) ∧ Below w.heap.size w w' := by
  have hb : ((n : Int) != (m : Int)) = true := by rw [bne_iff_ne]; omega
  clear h
  go_enter Try.func10, Try.ntmps10
  go_wp2
  go_ret
  exact ⟨rfl, Below.refl _ _⟩
set_option maxHeartbeats 400000 in
theorem same_none (a1 a2 : Option Addr) (c1 c2 : Nat) (w : World) :
    Calls Try.prog 10 #[.slice a1 0 c1, .slice a2 0 c2] w fun e w' => e = .returned (.bool true) ∧ Below w.heap.size w w' := by
  go_enter Try.func10, Try.ntmps10
  go_wp2
  refine wp_loop_rounds 1 ?_
  rw [rounds_succ]
  go_wp2
  go_ret
  exact ⟨rfl, Below.refl _ _⟩
theorem same_any {v1 v2 : Value} {xs ys : List ByteArray} (hb : xs.length ≤ 4000000) (w : World) (h1 : StrsAt w v1 xs) (h2 : StrsAt w v2 ys) :
    Calls Try.prog 10 #[v1, v2] w fun e w' => e = .returned (.bool (decide (xs = ys))) ∧ Below w.heap.size w w' := by
  obtain ⟨a1, c1, rfl, _, g1⟩ := h1
  obtain ⟨a2, c2, rfl, _, g2⟩ := h2
  by_cases hl : xs.length = ys.length
  · by_cases h0 : xs.length = 0
    · have e1 := List.length_eq_zero_iff.1 h0
      have e2 := List.length_eq_zero_iff.1 (hl ▸ h0 : ys.length = 0)
      subst e1 e2
      exact same_none a1 a2 c1 c2 w
    · obtain ⟨b1, o1, rfl, k1⟩ := g1 (by omega)
      obtain ⟨b2, o2, rfl, k2⟩ := g2 (by omega)
      exact same_some b1 o1 c1 b2 o2 c2 xs ys hl hb w (Lib.hid k1) (Lib.hid k2)
  · rw [decide_eq_false (fun e => hl (by rw [e]))]
    exact same_len a1 a2 _ _ c1 c2 hl w
/-- token.Upper. -/
theorem up_toNat (c : UInt8) (h : 97 ≤ c.toNat ∧ c.toNat ≤ 122) : (up1 c).toNat = c.toNat - 32 := by
  unfold up1
  rw [if_pos h, UInt8.toNat_sub_of_le _ _ (by rw [UInt8.le_iff_toNat_le]; show 32 ≤ c.toNat; omega)]
  rfl
theorem up_same (c : UInt8) (h : ¬ (97 ≤ c.toNat ∧ c.toNat ≤ 122)) : up1 c = c := by
  unfold up1
  rw [if_neg h]
theorem upB_size (s : ByteArray) : (upB s).size = s.size := by
  unfold upB
  rw [size_mk, List.length_map, ← Lib.size_eq]
theorem upB_at (s : ByteArray) (j : Nat) (hj : j < (upB s).data.toList.length) (hs : j < s.size) : (upB s).data.toList[j] = up1 s[j] := by
  have : (upB s).data.toList = s.data.toList.map up1 := rfl
  simp only [this, List.getElem_map]
  rfl
/-- Where the loop over a row of bytes stands: the first k are made capital ones. -/
def UpAt (s : ByteArray) (B k : Nat) (w : World) : Prop := ∀ (j : Nat) (hj : j < s.size), w.cell? ⟨B, j, none⟩ = some (.int .u8 ((if j < k then up1 s[j] else s[j]).toNat : Int)) ∧ w.frozen? ⟨B, j, none⟩ = false
theorem upAt_zero (s : ByteArray) (w : World) (cap : Nat) (t : TypeId) : UpAt s w.heap.size 0 ((w.alloc (.cells (bytesRow s cap) t ((bytesRow s cap).size, (bytesRow s cap).size + 1))).drew) := by
  intro j hj
  have hsz : s.size ≤ (bytesRow s cap).size := by unfold bytesRow; simp
  rw [if_neg (by omega)]
  refine ⟨?_, ?_⟩
  · show (w.alloc _).cell? _ = _
    rw [World.cell?_alloc_mark, bytesRow_at s cap j hj]
    rfl
  · show (w.alloc _).frozen? _ = _
    rw [World.frozen?_alloc_mark, decide_eq_false (by omega)]
    rfl
theorem upAt_same {s : ByteArray} {B k : Nat} {w : World} (h : UpAt s B k w) (hk : k < s.size) (hc : up1 s[k] = s[k]) : UpAt s B (k + 1) w := by
  intro j hj
  obtain ⟨h1, h2⟩ := h j hj
  refine ⟨?_, h2⟩
  by_cases e : j = k
  · subst e
    rw [if_pos (by omega), hc, h1, if_neg (by omega)]
  · rw [h1]
    by_cases e2 : j < k
    · rw [if_pos e2, if_pos (by omega)]
    · rw [if_neg e2, if_neg (by omega)]
theorem upAt_set {s : ByteArray} {B k : Nat} {w : World} (h : UpAt s B k w) (hk : k < s.size) : UpAt s B (k + 1) (w.setCell ⟨B, k, none⟩ (.int .u8 ((up1 s[k]).toNat : Int))) := by
  intro j hj
  obtain ⟨h1, h2⟩ := h j hj
  refine ⟨?_, by rw [World.frozen?_setCell]; exact h2⟩
  by_cases e : j = k
  · subst e
    rw [World.cell?_setCell_same _ _ _ h1, if_pos (by omega)]
  · rw [World.cell?_setCell_other _ _ _ _ (fun e3 => e (congrArg Addr.off e3).symm), h1]
    by_cases e2 : j < k
    · rw [if_pos e2, if_pos (by omega)]
    · rw [if_neg e2, if_neg (by omega)]
theorem upAt_back {s : ByteArray} {B k : Nat} {w : World} (h : UpAt s B s.size w) (cap : Nat) : (convert 38 9 (.slice (some ⟨B, 0, none⟩) s.size cap)).run Try.prog w = .ok (.string (upB s)) w := by
  have hl : (upB s).data.toList.length = s.size := by rw [← Lib.size_eq, upB_size]
  have h1 := run_convert_bytes_back (P := Try.prog) w 38 9 5 ⟨B, 0, none⟩ cap (upB s).data.toList Try.underlying38 Try.underlying5 Try.underlying9 (fun j hj => by
    rw [Addr.add_lit, Nat.zero_add, (h j (by omega)).1, if_pos (by omega), upB_at s j hj (by omega)])
  rw [hl, Lib.mk_data] at h1
  exact h1
set_option maxHeartbeats 1000000 in
theorem tupper_any (s : ByteArray) (hs : s.size ≤ maxLen) (w : World) :
    Calls Try.prog 11 #[.string s] w fun e w' => e = .returned (.string (upB s)) ∧ Below w.heap.size w w' := by
  unfold maxLen at hs
  have hcv := fun w => run_bytes_of_string (P := Try.prog) w 9 38 5 s Try.underlying9 Try.underlying38 Try.underlying5
  go_enter Try.func11, Try.ntmps11
  go_wp2
  generalize grownCap w s.size 0 5 = cap
  clear hcv
  go_loopw [10] (fun i wr => ∃ k : Nat, k ≤ s.size ∧ i = .int .i64 k ∧ Hid (UpAt s w.heap.size k wr) ∧ Hid (Below w.heap.size w wr)) (fun i _ => s.size - (RowKit.intOf i).toNat)
  case atStart => exact ⟨0, Nat.zero_le _, rfl, Lib.hid (upAt_zero s w cap _), Lib.hid ((Below.refl _ _).alloc (Nat.le_refl _) _).drew⟩
  case round =>
    obtain ⟨k, hk, rfl, HU, HB⟩ := hrel
    by_cases hlt : k < s.size
    · obtain ⟨e1, e2⟩ := HU.out k hlt
      rw [if_neg (by omega)] at e1
      by_cases hc : 97 ≤ s[k].toNat ∧ s[k].toNat ≤ 122
      · have HN := Lib.hid (upAt_set HU.out hlt)
        rw [up_toNat _ hc, show ((s[k].toNat - 32 : Nat) : Int) = (s[k].toNat : Int) - 97 + 65 by omega] at HN
        obtain ⟨hc1, hc2⟩ := hc
        go_wp2
        go_roundw
        case rel => exact ⟨k + 1, by omega, by go_num, HN, Lib.hid (HB.out.setCell (p := ⟨w.heap.size, k, none⟩) (Nat.le_refl _) _)⟩
        case measure => simp [RowKit.intOf] <;> omega
      · have HN := Lib.hid (upAt_same HU.out hlt (up_same _ hc))
        have hd : (97 ≤ s[k].toNat ∧ 122 < s[k].toNat) ∨ s[k].toNat < 97 := by omega
        clear hc
        rcases hd with ⟨hd1, hd2⟩ | hd
        · go_wp2
          go_roundw
          case rel => exact ⟨k + 1, by omega, by go_num, HN, HB⟩
          case measure => simp [RowKit.intOf] <;> omega
        · go_wp2
          go_roundw
          case rel => exact ⟨k + 1, by omega, by go_num, HN, HB⟩
          case measure => simp [RowKit.intOf] <;> omega
    · obtain rfl : k = s.size := by omega
      have hback := upAt_back (k := 0) HU.out cap
      go_wp2
      go_ret
      exact ⟨rfl, HB.out⟩
end Go.Proofs.Ytagpmjpkbnfhnaa
