import Derived.Test.YtlecidgfchaonaaDoorMD
set_option linter.unusedVariables false
set_option linter.unusedSimpArgs false
namespace Go.Proofs.YtlecidgfchaonaaDoor
open Go.RowKit
def BT (s : ByteArray) (k : Nat) (ws : List ByteArray) : Prop := k ≤ s.size ∧ ws.length ≤ k ∧ wat s k ws k = wordsOf s
def WT (s : ByteArray) (st k : Nat) (ws : List ByteArray) : Prop := st < k ∧ k ≤ s.size ∧ ws.length ≤ st ∧ wat s k ws st = wordsOf s
def JB (s : ByteArray) (w : World) (a' : Act) (w' : World) : Prop := ∃ (v u5 : Value) (k : Nat) (ws : List ByteArray) (u7 u8 u9 u10 u11 u12 u13 u14 u15 u16 u17 u18 u19 u20 u21 u22 u23 u24 u25 u26 u27 u28 u29 u30 u31 u32 u33 u34 u35 u36 u37 u38 u39 u40 u41 u42 u43 u44 u45 u46 u47 u48 u49 u50 u51 u52 u53 u54 u55 u56 u57 : Value), a' = { tmps := #[.string s, undef, .slice none 0 0, .int .i64 0, v, u5, .int .i64 k, u7, u8, u9, u10, u11, u12, u13, u14, u15, u16, u17, u18, u19, u20, u21, u22, u23, u24, u25, u26, u27, u28, u29, u30, u31, u32, u33, u34, u35, u36, u37, u38, u39, u40, u41, u42, u43, u44, u45, u46, u47, u48, u49, u50, u51, u52, u53, u54, u55, u56, u57], defers := [] } ∧ k ≤ s.size ∧ Hid (BT s k ws) ∧ Hid (w'.ownsRow w.heap.size 9 1 v ws.length (ws.map Value.string)) ∧ Hid (Below w.heap.size w w')
def JW (s : ByteArray) (w : World) (a' : Act) (w' : World) : Prop := ∃ (v : Value) (st k : Nat) (ws : List ByteArray) (u7 u8 u9 u10 u11 u12 u13 u14 u15 u16 u17 u18 u19 u20 u21 u22 u23 u24 u25 u26 u27 u28 u29 u30 u31 u32 u33 u34 u35 u36 u37 u38 u39 u40 u41 u42 u43 u44 u45 u46 u47 u48 u49 u50 u51 u52 u53 u54 u55 u56 u57 : Value), a' = { tmps := #[.string s, undef, .slice none 0 0, .int .i64 0, v, .int .i64 st, .int .i64 k, u7, u8, u9, u10, u11, u12, u13, u14, u15, u16, u17, u18, u19, u20, u21, u22, u23, u24, u25, u26, u27, u28, u29, u30, u31, u32, u33, u34, u35, u36, u37, u38, u39, u40, u41, u42, u43, u44, u45, u46, u47, u48, u49, u50, u51, u52, u53, u54, u55, u56, u57], defers := [] } ∧ k ≤ s.size ∧ st < k ∧ Hid (WT s st k ws) ∧ Hid (w'.ownsRow w.heap.size 9 1 v ws.length (ws.map Value.string)) ∧ Hid (Below w.heap.size w w')
def JE (s : ByteArray) (w : World) (a' : Act) (w' : World) : Prop := ∃ (v u5 u6 : Value) (ws : List ByteArray) (u7 u8 u9 u10 u11 u12 u13 u14 u15 u16 u17 u18 u19 u20 u21 u22 u23 u24 u25 u26 u27 u28 u29 u30 u31 u32 u33 u34 u35 u36 u37 u38 u39 u40 u41 u42 u43 u44 u45 u46 u47 u48 u49 u50 u51 u52 u53 u54 u55 u56 u57 : Value), a' = { tmps := #[.string s, undef, .slice none 0 0, .int .i64 0, v, u5, u6, u7, u8, u9, u10, u11, u12, u13, u14, u15, u16, u17, u18, u19, u20, u21, u22, u23, u24, u25, u26, u27, u28, u29, u30, u31, u32, u33, u34, u35, u36, u37, u38, u39, u40, u41, u42, u43, u44, u45, u46, u47, u48, u49, u50, u51, u52, u53, u54, u55, u56, u57], defers := [] } ∧ Hid (ws.length ≤ s.size ∧ wordsOf s = some ws) ∧ Hid (w'.ownsRow w.heap.size 9 1 v ws.length (ws.map Value.string)) ∧ Hid (Below w.heap.size w w')
def JL (s : ByteArray) (w : World) : Nat → Act → World → Prop
  | 0, a, w' => JE s w a w'
  | 1, a, w' => JB s w a w'
  | 2, a, w' => JW s w a w'
  | _, _, _ => False
def muL (s : ByteArray) (l : Nat) (a : Act) (_ : World) : Nat := if l = 0 then 0 else if l = 1 then 1 + 2 * (s.size - (RowKit.intOf (a.tmps.getD 6 undef)).toNat) else 2 + 2 * (s.size - (RowKit.intOf (a.tmps.getD 6 undef)).toNat)
theorem bt_zero (s : ByteArray) : BT s 0 [] := ⟨Nat.zero_le _, Nat.le_refl _, wat_zero s⟩
theorem bt_space {s : ByteArray} {k : Nat} {ws : List ByteArray} (h : BT s k ws) (hk : k < s.size) (hw : wb s[k] = false) (hb : sb s[k] = true) : BT s (k + 1) ws :=
  ⟨by omega, by have := h.2.1; omega, by rw [← h.2.2, wat_space0 hk hw hb]⟩
theorem bt_bad {s : ByteArray} {k : Nat} {ws : List ByteArray} (h : BT s k ws) (hk : k < s.size) (hw : wb s[k] = false) (hb : sb s[k] = false) : wordsOf s = none := by rw [← h.2.2, wat_bad hk hw hb]
theorem bt_word {s : ByteArray} {k : Nat} {ws : List ByteArray} (h : BT s k ws) (hk : k < s.size) (hw : wb s[k] = true) : WT s k (k + 1) ws :=
  ⟨by omega, by omega, h.2.1, by rw [← h.2.2, wat_word hk hw (Nat.le_refl _)]⟩
theorem bt_end {s : ByteArray} {ws : List ByteArray} (h : BT s s.size ws) : ws.length ≤ s.size ∧ wordsOf s = some ws := ⟨h.2.1, by rw [← h.2.2, wat_end0]⟩
theorem wt_word {s : ByteArray} {st k : Nat} {ws : List ByteArray} (h : WT s st k ws) (hk : k < s.size) (hw : wb s[k] = true) : WT s st (k + 1) ws :=
  ⟨by have := h.1; omega, by omega, h.2.2.1, by rw [← h.2.2.2, wat_word hk hw (by have := h.1; omega)]⟩
theorem wt_push {s : ByteArray} {st k : Nat} {ws : List ByteArray} (h : WT s st k ws) (hn : ∀ (hlt : k < s.size), wb s[k] = false) : BT s k (ws ++ [s.extract st k]) :=
  ⟨h.2.1, by have := h.1; have := h.2.2.1; simp; omega, by rw [← h.2.2.2, wat_push h.1 h.2.1 hn]⟩
set_option maxRecDepth 20000 in
set_option maxHeartbeats 1000000 in
theorem twords_ok (s : ByteArray) (hs : s.size ≤ 65536) (w : World) :
    Calls Tryd.prog 54 #[.string s] w fun e w' => ∃ v, e = .returned (.tuple #[v, .int .i64 (wordsF s)]) ∧ StrsAt w' v (wordsV s) ∧ Below w.heap.size w w' := by
  obtain ⟨i0, hi, hz0, hz1, hz2⟩ := info_parts info9
  go_enter Tryd.func54, Tryd.ntmps54
  go_wp2
  refine wp_scope_labels (JL s w) (muL s) ?_ ?_
  · have HR := Lib.hid (bt_zero s)
    have HO := Lib.hid (World.ownsRow_nil w w.heap.size 9 1)
    have HB := Lib.hid (Below.refl w.heap.size w)
    go_wp2
    go_step3
    by_cases h1 : 0 < s.size
    · have HW := Lib.hid (fun W => inword_any s[0] W)
      cases hw : wb s[0]
      · rw [hw] at HW
        by_cases c32 : s[0].toNat = 32
        · have h32 : ((s[0].toNat : Int) == 32) = true := by rw [c32]; rfl
          have HN := Lib.hid (bt_space HR.out h1 hw (by unfold sb; rw [decide_eq_true c32]; rfl))
          clear hw c32 HW
          go_wp2
          go_step3
          exact ⟨_, _, (0 + 1), [], _, _, _, _, _, _, _, _, _, _, _, _, _, _, _, _, _, _, _, _, _, _, _, _, _, _, _, _, _, _, _, _, _, _, _, _, _, _, _, _, _, _, _, _, _, _, _, _, _, _, _, rfl, by omega, HN, HO, HB⟩
        · have h32 : ((s[0].toNat : Int) == 32) = false := by rw [beq_eq_false_iff_ne]; omega
          by_cases c9 : s[0].toNat = 9
          · have h9 : ((s[0].toNat : Int) == 9) = true := by rw [c9]; rfl
            have HN := Lib.hid (bt_space HR.out h1 hw (by unfold sb; rw [decide_eq_true c9, Bool.or_true]))
            clear hw c32 c9 HW
            go_wp2
            go_step3
            exact ⟨_, _, (0 + 1), [], _, _, _, _, _, _, _, _, _, _, _, _, _, _, _, _, _, _, _, _, _, _, _, _, _, _, _, _, _, _, _, _, _, _, _, _, _, _, _, _, _, _, _, _, _, _, _, _, _, _, _, rfl, by omega, HN, HO, HB⟩
          · have h9 : ((s[0].toNat : Int) == 9) = false := by rw [beq_eq_false_iff_ne]; omega
            have HN := Lib.hid (words_none hs (bt_bad HR.out h1 hw (by unfold sb; rw [decide_eq_false c32, decide_eq_false c9]; rfl)))
            clear hw c32 c9
            go_wp2_with (go_at_call 64; refine (HW.out _).mono ?_; rintro e w' ⟨rfl, hw'⟩; obtain rfl := hw'.symm)
            simp only [jumps]
            go_ret2
            exact ⟨_, by rw [HN.out.2]; rfl, by rw [HN.out.1]; exact StrsAt.none _ _ _, HB.out⟩
      · rw [hw] at HW
        have hge : 33 ≤ s[0].toNat := by unfold wb at hw; rw [Bool.and_eq_true, decide_eq_true_eq] at hw; exact hw.1
        have h32 : ((s[0].toNat : Int) == 32) = false := by rw [beq_eq_false_iff_ne]; omega
        have h9 : ((s[0].toNat : Int) == 9) = false := by rw [beq_eq_false_iff_ne]; omega
        have HN := Lib.hid (bt_word HR.out h1 hw)
        clear hw hge
        go_wp2_with (go_at_call 64; refine (HW.out _).mono ?_; rintro e w' ⟨rfl, hw'⟩; obtain rfl := hw'.symm)
        go_step3
        go_wp2_with (go_at_call 64; refine (HW.out _).mono ?_; rintro e w' ⟨rfl, hw'⟩; obtain rfl := hw'.symm)
        go_step3
        exact ⟨_, 0, (0 + 1), [], _, _, _, _, _, _, _, _, _, _, _, _, _, _, _, _, _, _, _, _, _, _, _, _, _, _, _, _, _, _, _, _, _, _, _, _, _, _, _, _, _, _, _, _, _, _, _, _, _, _, _, rfl, by omega, by omega, HN, HO, HB⟩
    · have h0 : s.size = 0 := by omega
      have HN := Lib.hid (bt_end (show BT s s.size [] from by rw [h0]; exact HR.out))
      go_wp2
      go_step3
      exact ⟨_, _, _, [], _, _, _, _, _, _, _, _, _, _, _, _, _, _, _, _, _, _, _, _, _, _, _, _, _, _, _, _, _, _, _, _, _, _, _, _, _, _, _, _, _, _, _, _, _, _, _, _, _, _, _, rfl, HN, HO, HB⟩
  · rintro l a' w' hJ
    match l, hJ with
    | 0, hJ =>
      obtain ⟨v, u5, u6, ws, u7, u8, u9, u10, u11, u12, u13, u14, u15, u16, u17, u18, u19, u20, u21, u22, u23, u24, u25, u26, u27, u28, u29, u30, u31, u32, u33, u34, u35, u36, u37, u38, u39, u40, u41, u42, u43, u44, u45, u46, u47, u48, u49, u50, u51, u52, u53, u54, u55, u56, u57, rfl, HR, HO, HB⟩ := hJ
      refine ⟨_, rfl, ?_⟩
      have hwl := HR.out.1
      obtain ⟨a0, c0, rfl⟩ := own_slice HO.out
      by_cases h3 : 16384 < ws.length
      · have HN := Lib.hid (words_many hs HR.out.2 h3)
        go_wp2
        simp only [jumps]
        go_ret2
        exact ⟨_, by rw [HN.out.2]; rfl, by rw [HN.out.1]; exact StrsAt.none _ _ _, HB.out⟩
      · have HN := Lib.hid (words_some hs HR.out.2 (by omega))
        go_wp2
        simp only [jumps]
        go_ret2
        exact ⟨_, by rw [HN.out.2]; rfl, by rw [HN.out.1]; exact StrsAt.own HO.out, HB.out⟩
    | 1, hJ =>
      obtain ⟨v, u5, k, ws, u7, u8, u9, u10, u11, u12, u13, u14, u15, u16, u17, u18, u19, u20, u21, u22, u23, u24, u25, u26, u27, u28, u29, u30, u31, u32, u33, u34, u35, u36, u37, u38, u39, u40, u41, u42, u43, u44, u45, u46, u47, u48, u49, u50, u51, u52, u53, u54, u55, u56, u57, rfl, hk, HR, HO, HB⟩ := hJ
      refine ⟨_, rfl, ?_⟩
      by_cases h1 : k < s.size
      · have HW := Lib.hid (fun W => inword_any s[k] W)
        cases hw : wb s[k]
        · rw [hw] at HW
          by_cases c32 : s[k].toNat = 32
          · have h32 : ((s[k].toNat : Int) == 32) = true := by rw [c32]; rfl
            have HN := Lib.hid (bt_space HR.out h1 hw (by unfold sb; rw [decide_eq_true c32]; rfl))
            clear hw c32 HW
            go_wp2
            go_step3
            exact ⟨⟨_, _, (k + 1), ws, _, _, _, _, _, _, _, _, _, _, _, _, _, _, _, _, _, _, _, _, _, _, _, _, _, _, _, _, _, _, _, _, _, _, _, _, _, _, _, _, _, _, _, _, _, _, _, _, _, _, _, rfl, by omega, HN, HO, HB⟩, by simp [muL, RowKit.intOf] <;> omega⟩
          · have h32 : ((s[k].toNat : Int) == 32) = false := by rw [beq_eq_false_iff_ne]; omega
            by_cases c9 : s[k].toNat = 9
            · have h9 : ((s[k].toNat : Int) == 9) = true := by rw [c9]; rfl
              have HN := Lib.hid (bt_space HR.out h1 hw (by unfold sb; rw [decide_eq_true c9, Bool.or_true]))
              clear hw c32 c9 HW
              go_wp2
              go_step3
              exact ⟨⟨_, _, (k + 1), ws, _, _, _, _, _, _, _, _, _, _, _, _, _, _, _, _, _, _, _, _, _, _, _, _, _, _, _, _, _, _, _, _, _, _, _, _, _, _, _, _, _, _, _, _, _, _, _, _, _, _, _, rfl, by omega, HN, HO, HB⟩, by simp [muL, RowKit.intOf] <;> omega⟩
            · have h9 : ((s[k].toNat : Int) == 9) = false := by rw [beq_eq_false_iff_ne]; omega
              have HN := Lib.hid (words_none hs (bt_bad HR.out h1 hw (by unfold sb; rw [decide_eq_false c32, decide_eq_false c9]; rfl)))
              clear hw c32 c9
              go_wp2_with (go_at_call 64; refine (HW.out _).mono ?_; rintro e w' ⟨rfl, hw'⟩; obtain rfl := hw'.symm)
              simp only [jumps]
              go_ret2
              exact ⟨_, by rw [HN.out.2]; rfl, by rw [HN.out.1]; exact StrsAt.none _ _ _, HB.out⟩
        · rw [hw] at HW
          have hge : 33 ≤ s[k].toNat := by unfold wb at hw; rw [Bool.and_eq_true, decide_eq_true_eq] at hw; exact hw.1
          have h32 : ((s[k].toNat : Int) == 32) = false := by rw [beq_eq_false_iff_ne]; omega
          have h9 : ((s[k].toNat : Int) == 9) = false := by rw [beq_eq_false_iff_ne]; omega
          have HN := Lib.hid (bt_word HR.out h1 hw)
          clear hw hge
          go_wp2_with (go_at_call 64; refine (HW.out _).mono ?_; rintro e w' ⟨rfl, hw'⟩; obtain rfl := hw'.symm)
          go_step3
          go_wp2_with (go_at_call 64; refine (HW.out _).mono ?_; rintro e w' ⟨rfl, hw'⟩; obtain rfl := hw'.symm)
          go_step3
          exact ⟨⟨_, k, (k + 1), ws, _, _, _, _, _, _, _, _, _, _, _, _, _, _, _, _, _, _, _, _, _, _, _, _, _, _, _, _, _, _, _, _, _, _, _, _, _, _, _, _, _, _, _, _, _, _, _, _, _, _, _, rfl, by omega, by omega, HN, HO, HB⟩, by simp [muL, RowKit.intOf] <;> omega⟩
      · obtain rfl : k = s.size := by omega
        have HN := Lib.hid (bt_end HR.out)
        go_wp2
        go_step3
        exact ⟨⟨_, _, _, ws, _, _, _, _, _, _, _, _, _, _, _, _, _, _, _, _, _, _, _, _, _, _, _, _, _, _, _, _, _, _, _, _, _, _, _, _, _, _, _, _, _, _, _, _, _, _, _, _, _, _, _, rfl, HN, HO, HB⟩, by simp [muL, RowKit.intOf] <;> omega⟩
    | 2, hJ =>
      obtain ⟨v, st, k, ws, u7, u8, u9, u10, u11, u12, u13, u14, u15, u16, u17, u18, u19, u20, u21, u22, u23, u24, u25, u26, u27, u28, u29, u30, u31, u32, u33, u34, u35, u36, u37, u38, u39, u40, u41, u42, u43, u44, u45, u46, u47, u48, u49, u50, u51, u52, u53, u54, u55, u56, u57, rfl, hk, hst, HR, HO, HB⟩ := hJ
      refine ⟨_, rfl, ?_⟩
      by_cases h1 : k < s.size
      · have HW := Lib.hid (fun W => inword_any s[k] W)
        cases hw : wb s[k]
        · rw [hw] at HW
          have HX := Lib.hid hw
          clear hw
          go_wp2_with (first | (go_at_call 64; refine (HW.out _).mono ?_; rintro e w' ⟨rfl, hw'⟩; obtain rfl := hw'.symm) | (at_builtin; refine wpList_append_own _ rfl _ _ 27 rfl w.heap.size 9 i0 (.string ⟨#[]⟩) 1 16 Tryd.underlying27 hi hz0 hz1 hz2 rfl (by decide) _ _ _ rfl (HO.out.alloc _) ⟨w'.heap.size, 0, none⟩ 1 1 [.string (s.extract st k)] rfl rfl ?a1 (one_str _) ?a2 ?a3 ?a4 ?_))
          case a1 => intro j u hj; match j, hj with | 0, hj => simp at hj; subst hj; simp [Addr.add]
          case a2 => have := HR.out.1; have := HR.out.2.2.1; unfold maxLen; omega
          case a3 => have := HR.out.1; have := HR.out.2.2.1; omega
          case a4 => have := HB.out.size; simp; omega
          intro v' w1 hown' hgrow _
          have HN := Lib.hid (wt_push HR.out (fun _ => HX.out))
          have HO' := Lib.hid (own_snoc hown')
          have HB' := Lib.hid (below_own (HB.out.alloc HB.out.size _) (HO.out.alloc _) hgrow)
          clear hown' hgrow HO HR HB
          go_wp2
          go_step3
          exact ⟨⟨_, _, k, ws ++ [s.extract st k], _, _, _, _, _, _, _, _, _, _, _, _, _, _, _, _, _, _, _, _, _, _, _, _, _, _, _, _, _, _, _, _, _, _, _, _, _, _, _, _, _, _, _, _, _, _, _, _, _, _, _, rfl, by omega, HN, HO', HB'⟩, by simp [muL, RowKit.intOf] <;> omega⟩
        · rw [hw] at HW
          have HN := Lib.hid (wt_word HR.out h1 hw)
          clear hw
          go_wp2_with (go_at_call 64; refine (HW.out _).mono ?_; rintro e w' ⟨rfl, hw'⟩; obtain rfl := hw'.symm)
          go_step3
          exact ⟨⟨_, st, (k + 1), ws, _, _, _, _, _, _, _, _, _, _, _, _, _, _, _, _, _, _, _, _, _, _, _, _, _, _, _, _, _, _, _, _, _, _, _, _, _, _, _, _, _, _, _, _, _, _, _, _, _, _, _, rfl, by omega, by omega, HN, HO, HB⟩, by simp [muL, RowKit.intOf] <;> omega⟩
      · obtain rfl : k = s.size := by omega
        go_wp2_with (at_builtin; refine wpList_append_own _ rfl _ _ 27 rfl w.heap.size 9 i0 (.string ⟨#[]⟩) 1 16 Tryd.underlying27 hi hz0 hz1 hz2 rfl (by decide) _ _ _ rfl (HO.out.alloc _) ⟨w'.heap.size, 0, none⟩ 1 1 [.string (s.extract st s.size)] rfl rfl ?b1 (one_str _) ?b2 ?b3 ?b4 ?_)
        all_goals try (intro j u hj; match j, hj with | 0, hj => simp at hj; subst hj; simp [Addr.add]; done)
        case b2 => have := HR.out.1; have := HR.out.2.2.1; unfold maxLen; omega
        case b3 => have := HR.out.1; have := HR.out.2.2.1; omega
        case b4 => have := HB.out.size; simp; omega
        intro v' w1 hown' hgrow _
        have HN := Lib.hid (wt_push HR.out (fun h => absurd h (Nat.lt_irrefl _)))
        have HO' := Lib.hid (own_snoc hown')
        have HB' := Lib.hid (below_own (HB.out.alloc HB.out.size _) (HO.out.alloc _) hgrow)
        clear hown' hgrow HO HR HB
        go_wp2
        go_step3
        exact ⟨⟨_, _, s.size, ws ++ [s.extract st s.size], _, _, _, _, _, _, _, _, _, _, _, _, _, _, _, _, _, _, _, _, _, _, _, _, _, _, _, _, _, _, _, _, _, _, _, _, _, _, _, _, _, _, _, _, _, _, _, _, _, _, _, rfl, by omega, HN, HO', HB'⟩, by simp [muL, RowKit.intOf] <;> omega⟩
end Go.Proofs.YtlecidgfchaonaaDoor
