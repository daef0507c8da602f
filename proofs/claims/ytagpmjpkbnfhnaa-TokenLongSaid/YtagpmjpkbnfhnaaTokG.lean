import Derived.Test.YtagpmjpkbnfhnaaTokF
set_option linter.unusedVariables false
set_option linter.unusedSimpArgs false
namespace Go.Proofs.Ytagpmjpkbnfhnaa
open Go.RowKit
def byteV (c : UInt8) : Value := .int .u8 (c.toNat : Int)
theorem info5 : (Try.prog.info? 5).map (fun i => (i.zero, i.size, i.bytes)) = some (some (.int .u8 0), 1, 1) := by kernel_rfl
theorem one_byte (n : Int) : ∀ u ∈ [Value.int .u8 n], u.oneCell' = true := by
  intro u hu
  rw [List.mem_singleton] at hu
  subst hu
  rfl
theorem own_string {w : World} {B : Nat} {v : Value} {l : List UInt8} (h : w.ownsRow B 5 1 v l.length (l.map byteV)) : (convert 38 9 v).run Try.prog w = .ok (.string ⟨l.toArray⟩) w := by
  rcases h.2 with ⟨rfl, h0⟩ | ⟨g, cap, cur, rfl, hb, hg, hc, hm, hsz, htk⟩
  · obtain rfl := List.length_eq_zero_iff.1 h0
    rw [run_convert_bytes_string (P := Try.prog) w 38 9 5 none 0 0 Try.underlying38 Try.underlying5 Try.underlying9]
    rfl
  · refine run_convert_bytes_back (P := Try.prog) w 38 9 5 ⟨g, 0, none⟩ cap l Try.underlying38 Try.underlying5 Try.underlying9 (fun j hj => ?_)
    have e1 := h.cellAt j (by omega)
    rw [Addr.add_lit, Nat.zero_add, e1, List.getElem?_map, List.getElem?_eq_getElem hj]
    rfl
def upL (s : ByteArray) (k : Nat) : List UInt8 := (s.data.toList.take k).map up1
theorem upL_len (s : ByteArray) {k : Nat} (hk : k ≤ s.size) : (upL s k).length = k := by
  unfold upL
  rw [List.length_map, List.length_take, ← Lib.size_eq]
  omega
theorem upL_succ (s : ByteArray) {k : Nat} (hk : k < s.size) : upL s (k + 1) = upL s k ++ [up1 s[k]] := by
  have hl : k < s.data.toList.length := by rw [← Lib.size_eq]; exact hk
  unfold upL
  rw [List.take_succ_eq_append_getElem hl, List.map_append]
  rfl
theorem upL_all (s : ByteArray) : (⟨(upL s s.size).toArray⟩ : ByteArray) = upB s := by
  unfold upL upB
  rw [List.take_of_length_le (by rw [Lib.size_eq]; exact Nat.le_refl _)]
theorem own_up {w : World} {B k : Nat} {s : ByteArray} {v : Value} {n : Int} (hk : k < s.size) (hn : n = ((up1 s[k]).toNat : Int)) (h : w.ownsRow B 5 1 v (k + 1) ((upL s k).map byteV ++ [.int .u8 n])) : w.ownsRow B 5 1 v (k + 1) ((upL s (k + 1)).map byteV) := by
  rw [upL_succ s hk, List.map_append]
  subst hn
  exact h
set_option maxHeartbeats 1000000 in
theorem rupper_any (s : ByteArray) (hs : s.size ≤ 140737488355328) (w : World) :
    Calls Try.prog 12 #[.string s] w fun e w' => e = .returned (.string (upB s)) ∧ Below w.heap.size w w' := by
  obtain ⟨i0, hi, hz0, hz1, hz2⟩ := info_parts info5
  go_enter Try.func12, Try.ntmps12
  go_wp2
  go_loopw [3, 4] (fun v i wr => ∃ k : Nat, k ≤ s.size ∧ i = .int .i64 k ∧ Hid (wr.ownsRow w.heap.size 5 1 v k ((upL s k).map byteV)) ∧ Hid (Below w.heap.size w wr)) (fun _ i _ => s.size - (RowKit.intOf i).toNat)
  case atStart => exact ⟨0, Nat.zero_le _, rfl, Lib.hid (World.ownsRow_nil _ _ _ _), Lib.hid (Below.refl _ _)⟩
  case round =>
    obtain ⟨k, hk, rfl, HO, HB⟩ := hrel
    by_cases hlt : k < s.size
    · by_cases hc : 97 ≤ s[k].toNat ∧ s[k].toNat ≤ 122
      · have HE := Lib.hid (show (s[k].toNat : Int) - 32 = ((up1 s[k]).toNat : Int) from by rw [up_toNat _ hc]; omega)
        obtain ⟨hc1, hc2⟩ := hc
        go_wp2_with (at_builtin; refine wpList_append_own _ rfl _ _ 38 rfl w.heap.size 5 i0 (.int .u8 0) 1 1 Try.underlying38 hi hz0 hz1 hz2 rfl (by decide) _ _ _ rfl (HO.out.alloc _) ⟨wr.heap.size, 0, none⟩ 1 1 [.int .u8 ((s[k].toNat : Int) - 32)] rfl rfl ?a1 (one_byte _) ?a2 ?a3 ?a4 ?_)
        case a1 => intro j u hj; match j, hj with | 0, hj => simp at hj; subst hj; simp [Addr.add]
        case a2 => unfold maxLen; omega
        case a3 => omega
        case a4 => have := HB.out.size; simp; omega
        intro v' w1 hown' hgrow _
        have HO' := Lib.hid (own_up hlt HE.out hown')
        have HB' := Lib.hid (below_own (HB.out.alloc HB.out.size _) (HO.out.alloc _) hgrow)
        clear hown' hgrow HO HB
        go_wp2
        go_roundw
        case rel => exact ⟨k + 1, by omega, by go_num, HO', HB'⟩
        case measure => simp [RowKit.intOf] <;> omega
      · have HE := Lib.hid (show (s[k].toNat : Int) = ((up1 s[k]).toNat : Int) from by rw [up_same _ hc])
        have hd : (97 ≤ s[k].toNat ∧ 122 < s[k].toNat) ∨ s[k].toNat < 97 := by omega
        clear hc
        rcases hd with ⟨hd1, hd2⟩ | hd
        · go_wp2_with (at_builtin; refine wpList_append_own _ rfl _ _ 38 rfl w.heap.size 5 i0 (.int .u8 0) 1 1 Try.underlying38 hi hz0 hz1 hz2 rfl (by decide) _ _ _ rfl (HO.out.alloc _) ⟨wr.heap.size, 0, none⟩ 1 1 [.int .u8 (s[k].toNat : Int)] rfl rfl ?b1 (one_byte _) ?b2 ?b3 ?b4 ?_)
          case b1 => intro j u hj; match j, hj with | 0, hj => simp at hj; subst hj; simp [Addr.add]
          case b2 => unfold maxLen; omega
          case b3 => omega
          case b4 => have := HB.out.size; simp; omega
          intro v' w1 hown' hgrow _
          have HO' := Lib.hid (own_up hlt HE.out hown')
          have HB' := Lib.hid (below_own (HB.out.alloc HB.out.size _) (HO.out.alloc _) hgrow)
          clear hown' hgrow HO HB
          go_wp2
          go_roundw
          case rel => exact ⟨k + 1, by omega, by go_num, HO', HB'⟩
          case measure => simp [RowKit.intOf] <;> omega
        · go_wp2_with (at_builtin; refine wpList_append_own _ rfl _ _ 38 rfl w.heap.size 5 i0 (.int .u8 0) 1 1 Try.underlying38 hi hz0 hz1 hz2 rfl (by decide) _ _ _ rfl (HO.out.alloc _) ⟨wr.heap.size, 0, none⟩ 1 1 [.int .u8 (s[k].toNat : Int)] rfl rfl ?c1 (one_byte _) ?c2 ?c3 ?c4 ?_)
          try (case c1 => intro j u hj; match j, hj with | 0, hj => simp at hj; subst hj; simp [Addr.add])
          case c2 => unfold maxLen; omega
          case c3 => omega
          case c4 => have := HB.out.size; simp; omega
          intro v' w1 hown' hgrow _
          have HO' := Lib.hid (own_up hlt HE.out hown')
          have HB' := Lib.hid (below_own (HB.out.alloc HB.out.size _) (HO.out.alloc _) hgrow)
          clear hown' hgrow HO HB
          go_wp2
          go_roundw
          case rel => exact ⟨k + 1, by omega, by go_num, HO', HB'⟩
          case measure => simp [RowKit.intOf] <;> omega
    · obtain rfl : k = s.size := by omega
      have hback := own_string (l := upL s s.size) (by rw [upL_len s (Nat.le_refl _)]; exact HO.out)
      rw [upL_all] at hback
      go_wp2
      go_ret
      exact ⟨rfl, HB.out⟩
end Go.Proofs.Ytagpmjpkbnfhnaa
