import Derived.Test.YtagpmjpkbnfhnaaTokD
set_option linter.unusedVariables false
set_option linter.unusedSimpArgs false
namespace Go.Proofs.Ytagpmjpkbnfhnaa
open Go.RowKit
def strSize : Value → Nat
  | .string s => s.size
  | _ => 0
/-- Where the loops over a text stand: the lines ws are there, t is left. -/
def LR (s t : ByteArray) (ws : List ByteArray) : Prop := ws.length + t.size ≤ s.size ∧ linesOf s = (ws ++ (linesOf t).1, (linesOf t).2)
theorem lr_zero (s : ByteArray) : LR s s [] := ⟨by simp, by simp⟩
theorem lr_hit {s t : ByteArray} {ws : List ByteArray} {i : Nat} (h : LR s t ws) (hi : i < t.size) (hn : NoLf t i) (he : t[i] = 10) : LR s (t.extract (i + 1) t.size) (ws ++ [bareB (t.extract 0 i)]) := by
  obtain ⟨h1, h2⟩ := h
  refine ⟨?_, ?_⟩
  · rw [ByteArray.size_extract]
    simp
    omega
  · rw [h2, lines_hit hi hn he]
    simp
theorem lr_miss {s t : ByteArray} {ws : List ByteArray} (h : LR s t ws) (hn : NoLf t t.size) : linesOf s = (ws, t) := by
  rw [h.2, lines_miss hn]
  simp
theorem own_below {w w' : World} {B e size n : Nat} {v : Value} {xs : List Value} (h : w.ownsRow B e size v n xs) (hb : Below w.heap.size w w') : w'.ownsRow B e size v n xs := by
  refine ⟨h.1, ?_⟩
  rcases h.2 with h2 | ⟨g, cap, cur, e1, hB, hg, hr⟩
  · exact Or.inl h2
  · exact Or.inr ⟨g, cap, cur, e1, hB, by rw [hb.block g (Array.getElem?_eq_some_iff.1 hg).1]; exact hg, hr⟩
set_option maxHeartbeats 1000000 in
theorem rlines_any (s : ByteArray) (hs : s.size ≤ 4000000) (w : World) :
    Calls Try.prog 16 #[.string s] w fun e w' => ∃ v, e = .returned (.tuple #[v, .string (linesOf s).2]) ∧ StrsAt w' v (linesOf s).1 ∧ Below w.heap.size w w' := by
  obtain ⟨i0, hi, hz0, hz1, hz2⟩ := info_parts info9
  go_enter Try.func16, Try.ntmps16
  go_wp2
  go_loopw [0, 4] (fun x v wr => ∃ (t : ByteArray) (ws : List ByteArray), x = .string t ∧ t.size ≤ 4000000 ∧ Hid (LR s t ws) ∧ Hid (wr.ownsRow w.heap.size 9 1 v ws.length (ws.map Value.string)) ∧ Hid (Below w.heap.size w wr))
    (fun x _ _ => strSize x)
  case atStart => exact ⟨s, [], rfl, hs, Lib.hid (lr_zero s), Lib.hid (World.ownsRow_nil _ _ _ _), Lib.hid (Below.refl _ _)⟩
  case round =>
    obtain ⟨t, ws, rfl, ht, HR, HO, HB⟩ := hrel
    have HC := Lib.hid (fun W => rcut_any t ht W)
    rcases nl_cases t with ⟨h, hn⟩ | ⟨i, hlt, h, he, hn⟩
    · have HN := Lib.hid (lr_miss HR.out hn)
      obtain ⟨e1, e2, e3⟩ := cutL_miss (s := t) (by omega)
      rw [e1, e2, e3] at HC
      clear h hn e1 e2 e3
      obtain ⟨a0, c0, rfl⟩ := own_slice HO.out
      go_wp2_with (go_at_call 18; refine (HC.out _).mono ?_; rintro e w' ⟨rfl, hb'⟩; have HB' := Lib.hid hb'; clear hb')
      go_ret2
      refine ⟨_, by rw [HN.out]; rfl, by rw [HN.out]; exact (StrsAt.own HO.out).on HB'.out, HB.out.trans (HB'.out.mono HB.out.size)⟩
    · have HN := Lib.hid (lr_hit HR.out hlt hn he)
      obtain ⟨e1, e2, e3⟩ := cutL_hit h
      rw [e1, e2, e3] at HC
      have hz : (t.extract (i + 1) t.size).size + (i + 1) = t.size := by rw [ByteArray.size_extract]; omega
      obtain ⟨t1, ht1⟩ : ∃ t1, t.extract (i + 1) t.size = t1 := ⟨_, rfl⟩
      obtain ⟨l1, hl1⟩ : ∃ l1, bareB (t.extract 0 i) = l1 := ⟨_, rfl⟩
      rw [ht1] at HC HN hz
      rw [hl1] at HC HN
      clear h hn he e1 e2 e3 ht1 hl1
      go_wp2_with (first
        | (go_at_call 18; refine (HC.out _).mono ?_; rintro e w' ⟨rfl, hb'⟩; have HO2 := Lib.hid (own_below HO.out hb'); have HB2 := Lib.hid (HB.out.trans (hb'.mono HB.out.size)); clear hb')
        | (at_builtin; refine wpList_append_own _ rfl _ _ 23 rfl w.heap.size 9 i0 (.string ⟨#[]⟩) 1 16 Try.underlying23 hi hz0 hz1 hz2 rfl (by decide) _ _ _ rfl (HO2.out.alloc _) ⟨w'.heap.size, 0, none⟩ 1 1 [.string l1] rfl rfl ?a1 (one_str _) ?a2 ?a3 ?a4 ?_))
      case a1 => intro j u hj; match j, hj with | 0, hj => simp at hj; subst hj; simp [Addr.add]
      case a2 => have := HR.out.1; unfold maxLen; omega
      case a3 => have := HR.out.1; omega
      case a4 => have := HB2.out.size; simp; omega
      intro v' w1 hown' hgrow _
      have HO' := Lib.hid (own_snoc hown')
      have HB' := Lib.hid (below_own (HB2.out.alloc HB2.out.size _) (HO2.out.alloc _) hgrow)
      clear hown' hgrow HO HO2 HR HB HB2
      go_wp2
      go_roundw
      case rel => exact ⟨t1, ws ++ [l1], rfl, by omega, HN, HO', HB'⟩
      case measure => simp [strSize] <;> omega
set_option maxHeartbeats 1000000 in
theorem tlines_any (s : ByteArray) (hs : s.size ≤ 4000000) (w : World) :
    Calls Try.prog 15 #[.string s] w fun e w' => ∃ v, e = .returned (.tuple #[v, .string (linesOf s).2]) ∧ StrsAt w' v (linesOf s).1 ∧ Below w.heap.size w w' := by
  obtain ⟨i0, hi, hz0, hz1, hz2⟩ := info_parts info9
  go_enter Try.func15, Try.ntmps15
  go_wp2
  go_step3
  go_wp2
  go_step3
  go_wp2
  go_loopw [0, 4] (fun x v wr => ∃ (t : ByteArray) (ws : List ByteArray), x = .string t ∧ t.size ≤ 4000000 ∧ Hid (LR s t ws) ∧ Hid (wr.ownsRow w.heap.size 9 1 v ws.length (ws.map Value.string)) ∧ Hid (Below w.heap.size w wr))
    (fun x _ _ => strSize x)
  case atStart => exact ⟨s, [], rfl, hs, Lib.hid (lr_zero s), Lib.hid (World.ownsRow_nil _ _ _ _), Lib.hid (Below.refl _ _)⟩
  case round =>
    obtain ⟨t, ws, rfl, ht, HR, HO, HB⟩ := hrel
    go_wp2
    go_loop [0, 4, 8] (fun x v i => ∃ k : Nat, k ≤ t.size ∧ x = .string t ∧ v = u4 ∧ i = .int .i64 k ∧ Hid (NoLf t k)) (fun _ _ i => t.size - (RowKit.intOf i).toNat)
    case atStart => exact ⟨0, Nat.zero_le _, rfl, rfl, rfl, Lib.hid fun j _ h => by omega⟩
    case round =>
      obtain ⟨k, hk, rfl, rfl, rfl, HA⟩ := hrel
      by_cases hlt : k < t.size
      · by_cases he : t[k] = 10
        · have h10 : ((t[k].toNat : Int) == 10) = true := byte_eq (d := 10) he
          have HN := Lib.hid (lr_hit HR.out hlt HA.out he)
          have HC := Lib.hid (fun W => bare_any (t.extract 0 k) (by rw [ByteArray.size_extract]; unfold maxLen; omega) W)
          have hz : (t.extract (k + 1) t.size).size + (k + 1) = t.size := by rw [ByteArray.size_extract]; omega
          obtain ⟨l1, hl1⟩ : ∃ l1, bareB (t.extract 0 k) = l1 := ⟨_, rfl⟩
          rw [hl1] at HC HN
          clear he hl1
          go_wp2_with (first
            | (go_at_call 23; refine (HC.out _).mono ?_; rintro e w' ⟨rfl, hw'⟩; obtain rfl := hw'.symm)
            | (at_builtin; refine wpList_append_own _ rfl _ _ 23 rfl w.heap.size 9 i0 (.string ⟨#[]⟩) 1 16 Try.underlying23 hi hz0 hz1 hz2 rfl (by decide) _ _ _ rfl (HO.out.alloc _) ⟨wr.heap.size, 0, none⟩ 1 1 [.string l1] rfl rfl ?a1 (one_str _) ?a2 ?a3 ?a4 ?_))
          case a1 => intro j u hj; match j, hj with | 0, hj => simp at hj; subst hj; simp [Addr.add]
          case a2 => have := HR.out.1; unfold maxLen; omega
          case a3 => have := HR.out.1; omega
          case a4 => have := HB.out.size; simp; omega
          intro v' w1 hown' hgrow _
          have HO' := Lib.hid (own_snoc hown')
          have HB' := Lib.hid (below_own (HB.out.alloc HB.out.size _) (HO.out.alloc _) hgrow)
          clear hown' hgrow HO HR HB
          go_wp2
          go_roundw
          case rel => exact ⟨_, ws ++ [l1], rfl, by omega, HN, HO', HB'⟩
          case measure => simp [strSize] <;> omega
        · have h10 : ((t[k].toNat : Int) == 10) = false := byte_ne (d := 10) he
          have HN := Lib.hid (HA.out.succ hlt he)
          clear he
          go_wp2
          go_round
          case rel => exact ⟨k + 1, by omega, rfl, rfl, by go_num, HN⟩
          case measure => simp [RowKit.intOf] <;> omega
      · obtain rfl : k = t.size := by omega
        have HN := Lib.hid (lr_miss HR.out HA.out)
        obtain ⟨a0, c0, rfl⟩ := own_slice HO.out
        go_wp2
        go_ret2
        exact ⟨_, by rw [HN.out]; rfl, by rw [HN.out]; exact StrsAt.own HO.out, HB.out⟩
end Go.Proofs.Ytagpmjpkbnfhnaa
