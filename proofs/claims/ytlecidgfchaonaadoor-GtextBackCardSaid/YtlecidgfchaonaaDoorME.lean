import Derived.Test.YtlecidgfchaonaaDoorMD
import Derived.Test.YtlecidgfchaonaaDoorShelf
import Derived.BigQuiet
import Derived.Lib.CutLaws
import Derived.RegionTactic
set_option linter.unusedVariables false
set_option linter.unusedSimpArgs false
namespace Go.Proofs.YtlecidgfchaonaaDoor
open Go.RowKit
/-- MaxLen lies below the world's end and holds some int: strings.Cut's contract asks it, at a separator of one byte no call reads it. -/
def MaxI (w : World) : Prop := ∃ m : Int, w.cell? ⟨0, 0, none⟩ = some (.int .i64 m)
theorem maxI_on {W w1 : World} (hb : Below W.heap.size W w1) (h : MaxI W) : MaxI w1 := by
  obtain ⟨m, hm⟩ := h
  exact ⟨m, cell_on hb hm⟩
theorem size_mk (l : List UInt8) : (ByteArray.mk l.toArray).size = l.length := by simp [ByteArray.size]
theorem bare_any (s : ByteArray) (hs : s.size ≤ maxLen) (w : World) :
    Calls Tryd.prog 53 #[.string s] w fun e w' => e = .returned (.string (bareB s)) ∧ w' = w := by
  have HC := Lib.hid (fun W => Tryd.strings_TrimSuffix s ⟨#[13]⟩ W (by unfold maxLen at hs; omega))
  go_enter Tryd.func53, Tryd.ntmps53
  go_wp2_with (go_at_call 63; refine (HC.out _).mono ?_; rintro e w' ⟨rfl, rfl⟩)
  go_ret
  exact ⟨rfl, rfl⟩
theorem cut_eq_hit {s : ByteArray} {i : Nat} (h : nl s = i) : (⟨(Lib.cut s.data.toList [10]).1.toArray⟩ : ByteArray) = s.extract 0 i ∧ (⟨(Lib.cut s.data.toList [10]).2.1.toArray⟩ : ByteArray) = s.extract (i + 1) s.size ∧ (Lib.cut s.data.toList [10]).2.2 = true :=
  Lib.cutB_hit s ⟨#[10]⟩ i h
theorem cut_eq_miss {s : ByteArray} (h : nl s < 0) : (Lib.cut s.data.toList [10]).2.2 = false := by
  have h' : Lib.index s.data.toList [10] < 0 := h
  unfold Lib.cut
  rw [if_neg (by omega)]
theorem cutL_hit {s : ByteArray} {i : Nat} (h : nl s = i) : cutL s = bareB (s.extract 0 i) ∧ cutR s = s.extract (i + 1) s.size ∧ cutIs s = true := by
  unfold cutL cutR cutIs
  rw [h, if_pos (by omega), if_pos (by omega), decide_eq_true (by omega)]
  exact ⟨rfl, rfl, rfl⟩
theorem cutL_miss {s : ByteArray} (h : nl s < 0) : cutL s = ⟨#[]⟩ ∧ cutR s = s ∧ cutIs s = false := by
  unfold cutL cutR cutIs
  rw [if_neg (by omega), if_neg (by omega), decide_eq_false (by omega)]
  exact ⟨rfl, rfl, rfl⟩
theorem trim_snoc (a : List UInt8) (c : UInt8) : Lib.trimSuffix (a ++ [c]) [13] = if c = 13 then a else a ++ [c] := by
  unfold Lib.trimSuffix Lib.hasSuffix
  by_cases h : c = 13
  · subst h
    rw [if_pos rfl, if_pos (List.isSuffixOf_iff_suffix.2 ⟨a, rfl⟩)]
    simp
  · rw [if_neg h, if_neg]
    intro hs
    obtain ⟨b, hb⟩ := List.isSuffixOf_iff_suffix.1 hs
    have := (List.append_inj' hb rfl).2
    simp at this
    exact h this.symm
theorem bare_cr {s : ByteArray} {j : Nat} (hj : j < s.size) (h : s[j] = 13) : bareB (s.extract 0 (j + 1)) = s.extract 0 j := by
  unfold bareB
  rw [ext_snoc s (Nat.zero_le _) hj, trim_snoc, if_pos h, Lib.mk_data]
theorem bare_nocr {s : ByteArray} {j : Nat} (hj : j < s.size) (h : s[j] ≠ 13) : bareB (s.extract 0 (j + 1)) = s.extract 0 (j + 1) := by
  unfold bareB
  rw [ext_snoc s (Nat.zero_le _) hj, trim_snoc, if_neg h, ← ext_snoc s (Nat.zero_le _) hj, Lib.mk_data]
theorem bare_zero {s : ByteArray} : bareB (s.extract 0 0) = ByteArray.empty := by
  unfold bareB
  rw [ext_nil, trim_no [] (by simp)]
  rfl
theorem byte_eq {c d : UInt8} (h : c = d) : ((c.toNat : Int) == (d.toNat : Int)) = true := by subst h; simp
theorem byte_ne {c d : UInt8} (h : c ≠ d) : ((c.toNat : Int) == (d.toNat : Int)) = false := by
  rw [beq_eq_false_iff_ne]
  intro x
  exact h (UInt8.toNat_inj.1 (by omega))
theorem byte_bne {c d : UInt8} (h : c ≠ d) : ((c.toNat : Int) != (d.toNat : Int)) = true := by
  rw [bne_iff_ne]
  intro x
  exact h (UInt8.toNat_inj.1 (by omega))
theorem byte_beq {c d : UInt8} (h : c = d) : ((c.toNat : Int) != (d.toNat : Int)) = false := by subst h; simp
end Go.Proofs.YtlecidgfchaonaaDoor

namespace Go.Proofs.YtlecidgfchaonaaDoor
open Go.RowKit
def strSize : Value → Nat
  | .string s => s.size
  | _ => 0
/-- Where the loops over a text stand: the lines ws are there, t is left. -/
def LR (s t : ByteArray) (ws : List ByteArray) : Prop := ws.length + t.size ≤ s.size ∧ linesOf s = (ws ++ (linesOf t).1, (linesOf t).2)
theorem lr_zero (s : ByteArray) : LR s s [] := ⟨by simp, by simp⟩
theorem lr_hit {s t : ByteArray} {ws : List ByteArray} {i : Nat} (h : LR s t ws) (hi : i < t.size) (hn : NoLf t i) (he : t[i] = 10) : LR s (t.extract (i + 1) t.size) (ws ++ [bareB (t.extract 0 i)]) := by
  obtain ⟨h1, h2⟩ := h
  refine ⟨?_, ?_⟩
  · rw [ByteArray.size_extract]
    simp
    omega
  · rw [h2, lines_hit hi hn he]
    simp
theorem lr_miss {s t : ByteArray} {ws : List ByteArray} (h : LR s t ws) (hn : NoLf t t.size) : linesOf s = (ws, t) := by
  rw [h.2, lines_miss hn]
  simp
theorem own_below {w w' : World} {B e size n : Nat} {v : Value} {xs : List Value} (h : w.ownsRow B e size v n xs) (hb : Below w.heap.size w w') : w'.ownsRow B e size v n xs := by
  refine ⟨h.1, ?_⟩
  rcases h.2 with h2 | ⟨g, cap, cur, e1, hB, hg, hr⟩
  · exact Or.inl h2
  · exact Or.inr ⟨g, cap, cur, e1, hB, by rw [hb.block g (Array.getElem?_eq_some_iff.1 hg).1]; exact hg, hr⟩
set_option maxHeartbeats 1000000 in
theorem tlines_any (s : ByteArray) (hs : s.size ≤ 4000000) (w : World) :
    Calls Tryd.prog 35 #[.string s] w fun e w' => ∃ v, e = .returned (.tuple #[v, .string (linesOf s).2]) ∧ StrsAt w' v (linesOf s).1 ∧ Below w.heap.size w w' := by
  obtain ⟨i0, hi, hz0, hz1, hz2⟩ := info_parts info9
  go_enter Tryd.func35, Tryd.ntmps35
  go_wp2
  go_step3
  go_wp2
  go_step3
  go_wp2
  go_loopw [0, 4] (fun x v wr => ∃ (t : ByteArray) (ws : List ByteArray), x = .string t ∧ t.size ≤ 4000000 ∧ Hid (LR s t ws) ∧ Hid (wr.ownsRow w.heap.size 9 1 v ws.length (ws.map Value.string)) ∧ Hid (Below w.heap.size w wr))
    (fun x _ _ => strSize x)
  case atStart => exact ⟨s, [], rfl, hs, Lib.hid (lr_zero s), Lib.hid (World.ownsRow_nil _ _ _ _), Lib.hid (Below.refl _ _)⟩
  case round =>
    obtain ⟨t, ws, rfl, ht, HR, HO, HB⟩ := hrel
    go_wp2
    go_loop [0, 4, 8] (fun x v i => ∃ k : Nat, k ≤ t.size ∧ x = .string t ∧ v = u4 ∧ i = .int .i64 k ∧ Hid (NoLf t k)) (fun _ _ i => t.size - (RowKit.intOf i).toNat)
    case atStart => exact ⟨0, Nat.zero_le _, rfl, rfl, rfl, Lib.hid fun j _ h => by omega⟩
    case round =>
      obtain ⟨k, hk, rfl, rfl, rfl, HA⟩ := hrel
      by_cases hlt : k < t.size
      · by_cases he : t[k] = 10
        · have h10 : ((t[k].toNat : Int) == 10) = true := byte_eq (d := 10) he
          have HN := Lib.hid (lr_hit HR.out hlt HA.out he)
          have HC := Lib.hid (fun W => bare_any (t.extract 0 k) (by rw [ByteArray.size_extract]; unfold maxLen; omega) W)
          have hz : (t.extract (k + 1) t.size).size + (k + 1) = t.size := by rw [ByteArray.size_extract]; omega
          obtain ⟨l1, hl1⟩ : ∃ l1, bareB (t.extract 0 k) = l1 := ⟨_, rfl⟩
          rw [hl1] at HC HN
          clear he hl1
          go_wp2_with (first
            | (go_at_call 53; refine (HC.out _).mono ?_; rintro e w' ⟨rfl, hw'⟩; obtain rfl := hw'.symm)
            | (at_builtin; refine wpList_append_own _ rfl _ _ 27 rfl w.heap.size 9 i0 (.string ⟨#[]⟩) 1 16 Tryd.underlying27 hi hz0 hz1 hz2 rfl (by decide) _ _ _ rfl (HO.out.alloc _) ⟨wr.heap.size, 0, none⟩ 1 1 [.string l1] rfl rfl ?a1 (one_str _) ?a2 ?a3 ?a4 ?_))
          case a1 => intro j u hj; match j, hj with | 0, hj => simp at hj; subst hj; simp [Addr.add]
          case a2 => have := HR.out.1; unfold maxLen; omega
          case a3 => have := HR.out.1; omega
          case a4 => have := HB.out.size; simp; omega
          intro v' w1 hown' hgrow _
          have HO' := Lib.hid (own_snoc hown')
          have HB' := Lib.hid (below_own (HB.out.alloc HB.out.size _) (HO.out.alloc _) hgrow)
          clear hown' hgrow HO HR HB
          go_wp2
          go_roundw
          case rel => exact ⟨_, ws ++ [l1], rfl, by omega, HN, HO', HB'⟩
          case measure => simp [strSize] <;> omega
        · have h10 : ((t[k].toNat : Int) == 10) = false := byte_ne (d := 10) he
          have HN := Lib.hid (HA.out.succ hlt he)
          clear he
          go_wp2
          go_round
          case rel => exact ⟨k + 1, by omega, rfl, rfl, by go_num, HN⟩
          case measure => simp [RowKit.intOf] <;> omega
      · obtain rfl : k = t.size := by omega
        have HN := Lib.hid (lr_miss HR.out HA.out)
        obtain ⟨a0, c0, rfl⟩ := own_slice HO.out
        go_wp2
        go_ret2
        exact ⟨_, by rw [HN.out]; rfl, by rw [HN.out]; exact StrsAt.own HO.out, HB.out⟩
end Go.Proofs.YtlecidgfchaonaaDoor

namespace Go.Proofs.YtlecidgfchaonaaDoor
open Go.RowKit
theorem str_ne {x y : ByteArray} (h : x ≠ y) : (x.toList == y.toList) = false := by
  rw [beq_eq_false_iff_ne, Lib.toList_data, Lib.toList_data]
  intro e
  exact h (by rw [← Lib.mk_data x, e, Lib.mk_data])
set_option maxHeartbeats 1000000 in
theorem same_some (b1 o1 c1 b2 o2 c2 : Nat) (xs ys : List ByteArray) (hl : xs.length = ys.length) (hb : xs.length ≤ 4000000) (w : World)
    (h1 : Hid (∀ j x, xs[j]? = some x → w.cell? ⟨b1, o1 + j, none⟩ = some (.string x))) (h2 : Hid (∀ j y, ys[j]? = some y → w.cell? ⟨b2, o2 + j, none⟩ = some (.string y))) :
    Calls Tryd.prog 12 #[.slice (some ⟨b1, o1, none⟩) xs.length c1, .slice (some ⟨b2, o2, none⟩) ys.length c2] w fun e w' => e = .returned (.bool (decide (xs = ys))) ∧ Below w.heap.size w w' := by
  obtain ⟨n, hn⟩ : ∃ n, xs.length = n := ⟨_, rfl⟩
  have hn2 : ys.length = n := by omega
  rw [hn, hn2]
  go_enter Tryd.func12, Tryd.ntmps12
  go_wp2
  go_loopw [5] (fun i wr => ∃ k : Nat, k ≤ n ∧ i = .int .i64 k ∧ Hid (∀ j : Nat, j < k → xs[j]? = ys[j]?) ∧ Hid (Below w.heap.size w wr)) (fun i _ => n - (RowKit.intOf i).toNat)
  case atStart => exact ⟨0, Nat.zero_le _, rfl, Lib.hid fun j h => by omega, Lib.hid (Below.refl _ _)⟩
  case round =>
    obtain ⟨k, hk, rfl, HA, HB⟩ := hrel
    by_cases hlt : k < n
    · have hx0 : xs[k]? = some (xs[k]'(by omega)) := List.getElem?_eq_getElem (by omega)
      have hy0 : ys[k]? = some (ys[k]'(by omega)) := List.getElem?_eq_getElem (by omega)
      have e1 := cell_on HB.out (h1.out k _ hx0)
      have e2 := cell_on HB.out (h2.out k _ hy0)
      obtain ⟨x, hx⟩ : ∃ x, xs[k]'(by omega) = x := ⟨_, rfl⟩
      obtain ⟨y, hy⟩ : ∃ y, ys[k]'(by omega) = y := ⟨_, rfl⟩
      rw [hx] at e1 hx0
      rw [hy] at e2 hy0
      by_cases hxy : x = y
      · subst hxy
        have HN : Hid (∀ j : Nat, j < k + 1 → xs[j]? = ys[j]?) := Lib.hid fun j hj => by
          by_cases ej : j = k
          · rw [ej, hx0, hy0]
          · exact HA.out j (by omega)
        clear hx0 hy0 hx hy
        go_wp2
        go_region
        all_goals go_wp2
        all_goals go_roundw
        case rel => exact ⟨k + 1, by omega, by go_num, HN, Lib.hid HB.out.drew⟩
        case measure => simp [RowKit.intOf] <;> omega
      · have hne := str_ne hxy
        have HN : Hid (decide (xs = ys) = false) := Lib.hid (decide_eq_false fun e => hxy (by rw [e, hy0] at hx0; exact (Option.some.inj hx0).symm))
        clear hx0 hy0 hx hy hxy
        go_wp2
        go_region
        all_goals go_wp2
        all_goals go_ret
        all_goals exact ⟨by rw [HN.out]; rfl, HB.out.drew⟩
    · obtain rfl : k = n := by omega
      have HN : Hid (decide (xs = ys) = true) := Lib.hid (decide_eq_true (List.ext_getElem? fun j => by
        by_cases hj : j < k
        · exact HA.out j hj
        · rw [List.getElem?_eq_none (by omega), List.getElem?_eq_none (by omega)]))
      go_wp2
      go_ret
      exact ⟨by rw [HN.out]; rfl, HB.out⟩
set_option maxHeartbeats 400000 in
theorem same_len (a1 a2 : Option Addr) (n m c1 c2 : Nat) (h : n ≠ m) (w : World) :
    Calls Tryd.prog 12 #[.slice a1 n c1, .slice a2 m c2] w fun e w' => e = .returned (.bool false) ∧ Below w.heap.size w w' := by
  have hb : ((n : Int) != (m : Int)) = true := by rw [bne_iff_ne]; omega
  clear h
  go_enter Tryd.func12, Tryd.ntmps12
  go_wp2
  go_ret
  exact ⟨rfl, Below.refl _ _⟩
set_option maxHeartbeats 400000 in
theorem same_none (a1 a2 : Option Addr) (c1 c2 : Nat) (w : World) :
    Calls Tryd.prog 12 #[.slice a1 0 c1, .slice a2 0 c2] w fun e w' => e = .returned (.bool true) ∧ Below w.heap.size w w' := by
  go_enter Tryd.func12, Tryd.ntmps12
  go_wp2
  refine wp_loop_rounds 1 ?_
  rw [rounds_succ]
  go_wp2
  go_ret
  exact ⟨rfl, Below.refl _ _⟩
theorem same_any {v1 v2 : Value} {xs ys : List ByteArray} (hb : xs.length ≤ 4000000) (w : World) (h1 : StrsAt w v1 xs) (h2 : StrsAt w v2 ys) :
    Calls Tryd.prog 12 #[v1, v2] w fun e w' => e = .returned (.bool (decide (xs = ys))) ∧ Below w.heap.size w w' := by
  obtain ⟨a1, c1, rfl, _, g1⟩ := h1
  obtain ⟨a2, c2, rfl, _, g2⟩ := h2
  by_cases hl : xs.length = ys.length
  · by_cases h0 : xs.length = 0
    · have e1 := List.length_eq_zero_iff.1 h0
      have e2 := List.length_eq_zero_iff.1 (hl ▸ h0 : ys.length = 0)
      subst e1 e2
      exact same_none a1 a2 c1 c2 w
    · obtain ⟨b1, o1, rfl, k1⟩ := g1 (by omega)
      obtain ⟨b2, o2, rfl, k2⟩ := g2 (by omega)
      exact same_some b1 o1 c1 b2 o2 c2 xs ys hl hb w (Lib.hid k1) (Lib.hid k2)
  · rw [decide_eq_false (fun e => hl (by rw [e]))]
    exact same_len a1 a2 _ _ c1 c2 hl w
/-- token.Upper. -/
theorem up_toNat (c : UInt8) (h : 97 ≤ c.toNat ∧ c.toNat ≤ 122) : (up1 c).toNat = c.toNat - 32 := by
  unfold up1
  rw [if_pos h, UInt8.toNat_sub_of_le _ _ (by rw [UInt8.le_iff_toNat_le]; show 32 ≤ c.toNat; omega)]
  rfl
theorem up_same (c : UInt8) (h : ¬ (97 ≤ c.toNat ∧ c.toNat ≤ 122)) : up1 c = c := by
  unfold up1
  rw [if_neg h]
theorem upB_size (s : ByteArray) : (upB s).size = s.size := by
  unfold upB
  rw [size_mk, List.length_map, ← Lib.size_eq]
theorem upB_at (s : ByteArray) (j : Nat) (hj : j < (upB s).data.toList.length) (hs : j < s.size) : (upB s).data.toList[j] = up1 s[j] := by
  have : (upB s).data.toList = s.data.toList.map up1 := rfl
  simp only [this, List.getElem_map]
  rfl
/-- Where the loop over a row of bytes stands: the first k are made capital ones. -/
def UpAt (s : ByteArray) (B k : Nat) (w : World) : Prop := ∀ (j : Nat) (hj : j < s.size), w.cell? ⟨B, j, none⟩ = some (.int .u8 ((if j < k then up1 s[j] else s[j]).toNat : Int)) ∧ w.frozen? ⟨B, j, none⟩ = false
theorem upAt_zero (s : ByteArray) (w : World) (cap : Nat) (t : TypeId) : UpAt s w.heap.size 0 ((w.alloc (.cells (bytesRow s cap) t ((bytesRow s cap).size, (bytesRow s cap).size + 1))).drew) := by
  intro j hj
  have hsz : s.size ≤ (bytesRow s cap).size := by unfold bytesRow; simp
  rw [if_neg (by omega)]
  refine ⟨?_, ?_⟩
  · show (w.alloc _).cell? _ = _
    rw [World.cell?_alloc_mark, bytesRow_at s cap j hj]
    rfl
  · show (w.alloc _).frozen? _ = _
    rw [World.frozen?_alloc_mark, decide_eq_false (by omega)]
    rfl
theorem upAt_same {s : ByteArray} {B k : Nat} {w : World} (h : UpAt s B k w) (hk : k < s.size) (hc : up1 s[k] = s[k]) : UpAt s B (k + 1) w := by
  intro j hj
  obtain ⟨h1, h2⟩ := h j hj
  refine ⟨?_, h2⟩
  by_cases e : j = k
  · subst e
    rw [if_pos (by omega), hc, h1, if_neg (by omega)]
  · rw [h1]
    by_cases e2 : j < k
    · rw [if_pos e2, if_pos (by omega)]
    · rw [if_neg e2, if_neg (by omega)]
theorem upAt_set {s : ByteArray} {B k : Nat} {w : World} (h : UpAt s B k w) (hk : k < s.size) : UpAt s B (k + 1) (w.setCell ⟨B, k, none⟩ (.int .u8 ((up1 s[k]).toNat : Int))) := by
  intro j hj
  obtain ⟨h1, h2⟩ := h j hj
  refine ⟨?_, by rw [World.frozen?_setCell]; exact h2⟩
  by_cases e : j = k
  · subst e
    rw [World.cell?_setCell_same _ _ _ h1, if_pos (by omega)]
  · rw [World.cell?_setCell_other _ _ _ _ (fun e3 => e (congrArg Addr.off e3).symm), h1]
    by_cases e2 : j < k
    · rw [if_pos e2, if_pos (by omega)]
    · rw [if_neg e2, if_neg (by omega)]
theorem upAt_back {s : ByteArray} {B k : Nat} {w : World} (h : UpAt s B s.size w) (cap : Nat) : (convert 51 9 (.slice (some ⟨B, 0, none⟩) s.size cap)).run Tryd.prog w = .ok (.string (upB s)) w := by
  have hl : (upB s).data.toList.length = s.size := by rw [← Lib.size_eq, upB_size]
  have h1 := run_convert_bytes_back (P := Tryd.prog) w 51 9 5 ⟨B, 0, none⟩ cap (upB s).data.toList Tryd.underlying51 Tryd.underlying5 Tryd.underlying9 (fun j hj => by
    rw [Addr.add_lit, Nat.zero_add, (h j (by omega)).1, if_pos (by omega), upB_at s j hj (by omega)])
  rw [hl, Lib.mk_data] at h1
  exact h1
end Go.Proofs.YtlecidgfchaonaaDoor
