import Derived.Test.YtagpmjpkbnfhnaaTokA
set_option linter.unusedVariables false
set_option linter.unusedSimpArgs false
namespace Go.Proofs.Ytagpmjpkbnfhnaa
open Go.RowKit
theorem cell_on {W w1 : World} (hb : Below W.heap.size W w1) {p : Addr} {v : Value} (h : W.cell? p = some v) : w1.cell? p = some v := by
  rw [hb.cell (World.block_lt_of_cell? W p h)]; exact h
theorem frozen_on {W w1 : World} (hb : Below W.heap.size W w1) {p : Addr} {v : Value} (h : W.cell? p = some v) (hf : W.frozen? p = false) : w1.frozen? p = false := by
  rw [hb.frozen (World.block_lt_of_cell? W p h)]; exact hf
/-- A SLICE VALUE THAT READS AS THESE STRINGS. -/
def StrsAt (w : World) (v : Value) (xs : List ByteArray) : Prop := ∃ (a : Option Addr) (c : Nat), v = .slice a xs.length c ∧ xs.length ≤ c ∧
  (0 < xs.length → ∃ b off, a = some ⟨b, off, none⟩ ∧ ∀ j x, xs[j]? = some x → w.cell? ⟨b, off + j, none⟩ = some (.string x))
theorem StrsAt.none (w : World) (a : Option Addr) (c : Nat) : StrsAt w (.slice a 0 c) [] := ⟨a, c, rfl, Nat.zero_le _, fun h => absurd h (by simp)⟩
theorem StrsAt.on {W w1 : World} (hb : Below W.heap.size W w1) {v : Value} {xs : List ByteArray} (h : StrsAt W v xs) : StrsAt w1 v xs := by
  obtain ⟨a, c, rfl, hc, h⟩ := h
  refine ⟨a, c, rfl, hc, fun h0 => ?_⟩
  obtain ⟨b, off, rfl, hcell⟩ := h h0
  exact ⟨b, off, rfl, fun j x hx => cell_on hb (hcell j x hx)⟩
theorem StrsAt.own {w : World} {B e : Nat} {v : Value} {ws : List ByteArray} (h : w.ownsRow B e 1 v ws.length (ws.map Value.string)) : StrsAt w v ws := by
  rcases h.2 with ⟨rfl, h0⟩ | ⟨g, cap, cur, rfl, hb, hg, hc, hm, hsz, htk⟩
  · have : ws = [] := List.length_eq_zero_iff.1 h0
    subst this
    exact StrsAt.none _ _ _
  · refine ⟨_, cap, rfl, hc, fun _ => ⟨g, 0, rfl, fun j x hx => ?_⟩⟩
    have hj : j < ws.length := (List.getElem?_eq_some_iff.1 hx).1
    have e1 := h.cellAt j (by omega)
    rw [List.getElem?_map, hx] at e1
    rw [Nat.zero_add]
    exact e1
theorem info9 : (Try.prog.info? 9).map (fun i => (i.zero, i.size, i.bytes)) = some (some (.string ⟨#[]⟩), 1, 16) := by kernel_rfl
theorem one_str (x : ByteArray) : ∀ u ∈ [Value.string x], u.oneCell' = true := by
  intro u hu
  rw [List.mem_singleton] at hu
  subst hu
  rfl
theorem own_snoc {w : World} {B e : Nat} {v : Value} {ws : List ByteArray} {x : ByteArray} (h : w.ownsRow B e 1 v (ws.length + 1) (ws.map Value.string ++ [Value.string x])) : w.ownsRow B e 1 v (ws ++ [x]).length ((ws ++ [x]).map Value.string) := by
  rw [List.length_append, List.map_append]
  exact h
theorem below_own {w wr w' : World} {e n : Nat} {xs : List Value} {v : Value} (hB : Below w.heap.size w wr) (hown : wr.ownsRow w.heap.size e 1 v n xs) (hg : wr.grownBy w' v.ownBlock) : Below w.heap.size w w' := by
  refine hB.grown hg hB.size fun j hj => ?_
  rcases hown.2 with ⟨rfl, _⟩ | ⟨g, cap, cur, rfl, hb, _⟩
  · cases hj
  · cases hj
    exact hb
/-- Where ref's loop stands: the words ws are there, one begins at f. -/
def RW (s : ByteArray) (k f : Nat) (ws : List ByteArray) : Prop := f ≤ k ∧ ws.length ≤ k ∧ ((k ≤ s.size ∧ wat s k ws f = wordsOf s) ∨ (k = s.size + 1 ∧ wordsOf s = some ws))
theorem rw_word {s : ByteArray} {k f : Nat} {ws : List ByteArray} (h : RW s k f ws) (hk : k < s.size) (hw : wb s[k] = true) : RW s (k + 1) f ws := by
  obtain ⟨h1, h2, h3⟩ := h
  refine ⟨by omega, by omega, Or.inl ⟨by omega, ?_⟩⟩
  rcases h3 with ⟨_, h3⟩ | ⟨h3, _⟩
  · rw [← h3, wat_word hk hw h1]
  · omega
theorem rw_space {s : ByteArray} {k f : Nat} {ws : List ByteArray} (h : RW s k f ws) (hk : k < s.size) (hw : wb s[k] = false) (hb : sb s[k] = true) (hf : f < k) : RW s (k + 1) (k + 1) (ws ++ [s.extract f k]) := by
  obtain ⟨h1, h2, h3⟩ := h
  refine ⟨by omega, by simp; omega, Or.inl ⟨by omega, ?_⟩⟩
  rcases h3 with ⟨_, h3⟩ | ⟨h3, _⟩
  · rw [← h3, wat_space hk hw hb hf]
  · omega
theorem rw_space0 {s : ByteArray} {k : Nat} {ws : List ByteArray} (h : RW s k k ws) (hk : k < s.size) (hw : wb s[k] = false) (hb : sb s[k] = true) : RW s (k + 1) (k + 1) ws := by
  obtain ⟨h1, h2, h3⟩ := h
  refine ⟨by omega, by omega, Or.inl ⟨by omega, ?_⟩⟩
  rcases h3 with ⟨_, h3⟩ | ⟨h3, _⟩
  · rw [← h3, wat_space0 hk hw hb]
  · omega
theorem rw_bad {s : ByteArray} {k f : Nat} {ws : List ByteArray} (h : RW s k f ws) (hk : k < s.size) (hw : wb s[k] = false) (hb : sb s[k] = false) : wordsOf s = none := by
  obtain ⟨h1, h2, h3⟩ := h
  rcases h3 with ⟨_, h3⟩ | ⟨h3, _⟩
  · rw [← h3, wat_bad hk hw hb]
  · omega
theorem rw_end {s : ByteArray} {f : Nat} {ws : List ByteArray} (h : RW s s.size f ws) (hf : f < s.size) : RW s (s.size + 1) (s.size + 1) (ws ++ [s.extract f s.size]) := by
  obtain ⟨h1, h2, h3⟩ := h
  refine ⟨by omega, by simp; omega, Or.inr ⟨rfl, ?_⟩⟩
  rcases h3 with ⟨_, h3⟩ | ⟨h3, _⟩
  · rw [← h3, wat_end hf]
  · omega
theorem rw_end0 {s : ByteArray} {ws : List ByteArray} (h : RW s s.size s.size ws) : RW s (s.size + 1) (s.size + 1) ws := by
  obtain ⟨h1, h2, h3⟩ := h
  refine ⟨by omega, by omega, Or.inr ⟨rfl, ?_⟩⟩
  rcases h3 with ⟨_, h3⟩ | ⟨h3, _⟩
  · rw [← h3, wat_end0]
  · omega
theorem rw_out {s : ByteArray} {f : Nat} {ws : List ByteArray} (h : RW s (s.size + 1) f ws) : wordsOf s = some ws := by
  rcases h.2.2 with ⟨h, _⟩ | ⟨_, h⟩
  · omega
  · exact h
theorem words_none {s : ByteArray} (hs : s.size ≤ 65536) (h : wordsOf s = none) : wordsV s = [] ∧ wordsF s = 3 := by
  unfold wordsV wordsF
  rw [h, if_neg (by omega), if_neg (by omega)]
  exact ⟨rfl, rfl⟩
theorem words_some {s : ByteArray} {ws : List ByteArray} (hs : s.size ≤ 65536) (h : wordsOf s = some ws) (hl : ws.length ≤ 16384) : wordsV s = ws ∧ wordsF s = 0 := by
  unfold wordsV wordsF
  rw [h, if_neg (by omega), if_neg (by omega)]
  simp only
  rw [if_neg (by omega), if_neg (by omega)]
  exact ⟨rfl, rfl⟩
theorem words_many {s : ByteArray} {ws : List ByteArray} (hs : s.size ≤ 65536) (h : wordsOf s = some ws) (hl : 16384 < ws.length) : wordsV s = [] ∧ wordsF s = 5 := by
  unfold wordsV wordsF
  rw [h, if_neg (by omega), if_neg (by omega)]
  simp only
  rw [if_pos (by omega), if_pos (by omega)]
  exact ⟨rfl, rfl⟩
theorem words_long {s : ByteArray} (hs : 65536 < s.size) : wordsV s = [] ∧ wordsF s = 5 := by
  unfold wordsV wordsF
  rw [if_pos (by omega), if_pos (by omega)]
  exact ⟨rfl, rfl⟩
theorem own_slice {w : World} {B e n : Nat} {v : Value} {xs : List Value} (h : w.ownsRow B e 1 v n xs) : ∃ a c, v = .slice a n c := by
  rcases h.2 with ⟨rfl, rfl⟩ | ⟨g, cap, cur, rfl, _⟩
  · exact ⟨_, _, rfl⟩
  · exact ⟨_, _, rfl⟩
set_option maxHeartbeats 1000000 in
theorem rwords_ok (s : ByteArray) (hs : s.size ≤ 65536) (w : World) :
    Calls Try.prog 9 #[.string s] w fun e w' => ∃ v, e = .returned (.tuple #[v, .int .i64 (wordsF s)]) ∧ StrsAt w' v (wordsV s) ∧ Below w.heap.size w w' := by
  obtain ⟨i0, hi, hz0, hz1, hz2⟩ := info_parts info9
  go_enter Try.func9, Try.ntmps9
  go_wp2
  go_loopw [4, 5, 6] (fun v f' i wr => ∃ (ws : List ByteArray) (f k : Nat), k ≤ s.size + 1 ∧ f ≤ k ∧ i = .int .i64 k ∧ f' = .int .i64 f ∧ Hid (RW s k f ws) ∧ Hid (wr.ownsRow w.heap.size 9 1 v ws.length (ws.map Value.string)) ∧ Hid (Below w.heap.size w wr))
    (fun _ _ i _ => s.size + 1 - (RowKit.intOf i).toNat)
  case atStart => exact ⟨[], 0, 0, by omega, by omega, rfl, rfl, Lib.hid ⟨by omega, by simp, Or.inl ⟨by omega, wat_zero s⟩⟩, Lib.hid (World.ownsRow_nil _ _ _ _), Lib.hid (Below.refl _ _)⟩
  case round =>
    obtain ⟨ws, f, k, hk, hf, rfl, rfl, HR, HO, HB⟩ := hrel
    by_cases h1 : k < s.size
    · have HW := Lib.hid (fun W => sign_any s[k] W)
      cases hw : wb s[k]
      · rw [hw] at HW
        by_cases c32 : s[k].toNat = 32
        · have h32 : ((s[k].toNat : Int) != 32) = false := by rw [c32]; rfl
          have HC := Lib.hid (show wb s[k] = false ∧ sb s[k] = true from ⟨hw, by unfold sb; rw [decide_eq_true c32]; rfl⟩)
          clear hw c32
          by_cases hfk : f < k
          · go_wp2_with (first | (go_at_call 22; refine (HW.out _).mono ?_; rintro e w' ⟨rfl, hw'⟩; obtain rfl := hw'.symm) | (at_builtin; refine wpList_append_own _ rfl _ _ 23 rfl w.heap.size 9 i0 (.string ⟨#[]⟩) 1 16 Try.underlying23 hi hz0 hz1 hz2 rfl (by decide) _ _ _ rfl (HO.out.alloc _) ⟨wr.heap.size, 0, none⟩ 1 1 [.string (s.extract f k)] rfl rfl ?a1 (one_str _) ?a2 ?a3 ?a4 ?_))
            case a1 => intro j u hj; match j, hj with | 0, hj => simp at hj; subst hj; simp [Addr.add]
            case a2 => have := HR.out.2.1; unfold maxLen; omega
            case a3 => have := HR.out.2.1; omega
            case a4 => have := HB.out.size; simp; omega
            intro v' w1 hown' hgrow _
            have HN := Lib.hid (rw_space HR.out h1 HC.out.1 HC.out.2 hfk)
            have HO' := Lib.hid (own_snoc hown')
            have HB' := Lib.hid (below_own (HB.out.alloc HB.out.size _) (HO.out.alloc _) hgrow)
            clear hown' hgrow HO HR HB
            go_wp2
            go_roundw
            case rel => exact ⟨ws ++ [s.extract f k], k + 1, k + 1, by omega, by omega, by go_num, by go_num, HN, HO', HB'⟩
            case measure => simp [RowKit.intOf] <;> omega
          · obtain rfl : f = k := by omega
            have HN := Lib.hid (rw_space0 HR.out h1 HC.out.1 HC.out.2)
            go_wp2_with (go_at_call 22; refine (HW.out _).mono ?_; rintro e w' ⟨rfl, hw'⟩; obtain rfl := hw'.symm)
            go_roundw
            case rel => exact ⟨ws, f + 1, f + 1, by omega, by omega, by go_num, by go_num, HN, HO, HB⟩
            case measure => simp [RowKit.intOf] <;> omega
        · have h32 : ((s[k].toNat : Int) != 32) = true := by rw [bne_iff_ne]; omega
          by_cases c9 : s[k].toNat = 9
          · have h9 : ((s[k].toNat : Int) != 9) = false := by rw [c9]; rfl
            have HC := Lib.hid (show wb s[k] = false ∧ sb s[k] = true from ⟨hw, by unfold sb; rw [decide_eq_true c9, Bool.or_true]⟩)
            clear hw c32 c9
            by_cases hfk : f < k
            · go_wp2_with (first | (go_at_call 22; refine (HW.out _).mono ?_; rintro e w' ⟨rfl, hw'⟩; obtain rfl := hw'.symm) | (at_builtin; refine wpList_append_own _ rfl _ _ 23 rfl w.heap.size 9 i0 (.string ⟨#[]⟩) 1 16 Try.underlying23 hi hz0 hz1 hz2 rfl (by decide) _ _ _ rfl (HO.out.alloc _) ⟨wr.heap.size, 0, none⟩ 1 1 [.string (s.extract f k)] rfl rfl ?b1 (one_str _) ?b2 ?b3 ?b4 ?_))
              case b1 => intro j u hj; match j, hj with | 0, hj => simp at hj; subst hj; simp [Addr.add]
              case b2 => have := HR.out.2.1; unfold maxLen; omega
              case b3 => have := HR.out.2.1; omega
              case b4 => have := HB.out.size; simp; omega
              intro v' w1 hown' hgrow _
              have HN := Lib.hid (rw_space HR.out h1 HC.out.1 HC.out.2 hfk)
              have HO' := Lib.hid (own_snoc hown')
              have HB' := Lib.hid (below_own (HB.out.alloc HB.out.size _) (HO.out.alloc _) hgrow)
              clear hown' hgrow HO HR HB
              go_wp2
              go_roundw
              case rel => exact ⟨ws ++ [s.extract f k], k + 1, k + 1, by omega, by omega, by go_num, by go_num, HN, HO', HB'⟩
              case measure => simp [RowKit.intOf] <;> omega
            · obtain rfl : f = k := by omega
              have HN := Lib.hid (rw_space0 HR.out h1 HC.out.1 HC.out.2)
              go_wp2_with (go_at_call 22; refine (HW.out _).mono ?_; rintro e w' ⟨rfl, hw'⟩; obtain rfl := hw'.symm)
              go_roundw
              case rel => exact ⟨ws, f + 1, f + 1, by omega, by omega, by go_num, by go_num, HN, HO, HB⟩
              case measure => simp [RowKit.intOf] <;> omega
          · have h9 : ((s[k].toNat : Int) != 9) = true := by rw [bne_iff_ne]; omega
            have HN := Lib.hid (words_none hs (rw_bad HR.out h1 hw (by unfold sb; rw [decide_eq_false c32, decide_eq_false c9]; rfl)))
            clear hw c32 c9
            go_wp2_with (go_at_call 22; refine (HW.out _).mono ?_; rintro e w' ⟨rfl, hw'⟩; obtain rfl := hw'.symm)
            go_ret2
            exact ⟨_, by rw [HN.out.2]; rfl, by rw [HN.out.1]; exact StrsAt.none _ _ _, HB.out⟩
      · have HN := Lib.hid (rw_word HR.out h1 hw)
        rw [hw] at HW
        clear hw
        go_wp2_with (go_at_call 22; refine (HW.out _).mono ?_; rintro e w' ⟨rfl, hw'⟩; obtain rfl := hw'.symm)
        go_roundw
        case rel => exact ⟨ws, f, k + 1, by omega, by omega, by go_num, rfl, HN, HO, HB⟩
        case measure => simp [RowKit.intOf] <;> omega
    · by_cases h2 : k = s.size
      · subst h2
        by_cases hfk : f < s.size
        · go_wp2_with (at_builtin; refine wpList_append_own _ rfl _ _ 23 rfl w.heap.size 9 i0 (.string ⟨#[]⟩) 1 16 Try.underlying23 hi hz0 hz1 hz2 rfl (by decide) _ _ _ rfl (HO.out.alloc _) ⟨wr.heap.size, 0, none⟩ 1 1 [.string (s.extract f s.size)] rfl rfl ?c1 (one_str _) ?c2 ?c3 ?c4 ?_)
          case c1 => intro j u hj; match j, hj with | 0, hj => simp at hj; subst hj; simp [Addr.add]
          case c2 => have := HR.out.2.1; unfold maxLen; omega
          case c3 => have := HR.out.2.1; omega
          case c4 => have := HB.out.size; simp; omega
          intro v' w1 hown' hgrow _
          have HN := Lib.hid (rw_end HR.out hfk)
          have HO' := Lib.hid (own_snoc hown')
          have HB' := Lib.hid (below_own (HB.out.alloc HB.out.size _) (HO.out.alloc _) hgrow)
          clear hown' hgrow HO HR HB
          go_wp2
          go_roundw
          case rel => exact ⟨ws ++ [s.extract f s.size], s.size + 1, s.size + 1, by omega, by omega, by go_num, by go_num, HN, HO', HB'⟩
          case measure => simp [RowKit.intOf] <;> omega
        · obtain rfl : f = s.size := by omega
          have HN := Lib.hid (rw_end0 HR.out)
          go_wp2
          go_roundw
          case rel => exact ⟨ws, s.size + 1, s.size + 1, by omega, by omega, by go_num, by go_num, HN, HO, HB⟩
          case measure => simp [RowKit.intOf] <;> omega
      · obtain rfl : k = s.size + 1 := by omega
        have hwl := HR.out.2.1
        obtain ⟨a0, c0, rfl⟩ := own_slice HO.out
        by_cases h3 : 16384 < ws.length
        · have HN := Lib.hid (words_many hs (rw_out HR.out) h3)
          go_wp2
          go_ret2
          exact ⟨_, by rw [HN.out.2]; rfl, by rw [HN.out.1]; exact StrsAt.none _ _ _, HB.out⟩
        · have HN := Lib.hid (words_some hs (rw_out HR.out) (by omega))
          go_wp2
          go_ret2
          exact ⟨_, by rw [HN.out.2]; rfl, by rw [HN.out.1]; exact StrsAt.own HO.out, HB.out⟩
end Go.Proofs.Ytagpmjpkbnfhnaa
