import Derived.Test.YtlecidgfchaonaaDoorMJ
set_option linter.unusedVariables false
set_option linter.unusedSimpArgs false
namespace Go.Proofs.YtlecidgfchaonaaDoor
open Go.RowKit
attribute [local go_sem ↓] Go.wp_at_zero Go.wp_at_succ
set_option maxHeartbeats 4000000 in
theorem rparse6_some (l : List ByteArray) (a : Option Addr) (m c : Nat) (hm : l.length = m) (hl : m ≤ 100000) (hz : ∀ x ∈ l, x.size ≤ maxLen) (w : World)
    (HC : Hid (0 < m → ∃ b off, a = some ⟨b, off, none⟩ ∧ ∀ j x, l[j]? = some x → w.cell? ⟨b, off + j, none⟩ = some (.string x))) :
    Calls Tryd.prog 15 #[.slice a m c] w fun e w' => ∃ v', e = .returned (.tuple #[.agg #[.int .i64 (parseG l).1, v'], .int .i64 (parseG l).2.2.1, .int .i64 (parseG l).2.2.2]) ∧ EdgesAt w' v' (parseG l).2.1 ∧ Below w.heap.size w w' := by
  have HZ := Lib.hid hz
  obtain ⟨P, hP⟩ : ∃ P, w.heap.size = P := ⟨_, rfl⟩
  have HB0 : Hid (Below P w ((w.alloc (.cells #[.int .i64 0, .slice none 0 0] 24)).alloc (.cells #[.int .i64 0, .slice none 0 0] 24))) := Lib.hid (by subst hP; exact ((Below.refl _ w).alloc (Nat.le_refl _) _).alloc (by simp) _)
  have HC0 : Hid (((w.alloc (.cells #[.int .i64 0, .slice none 0 0] 24)).alloc (.cells #[.int .i64 0, .slice none 0 0] 24)).cell? ⟨P, 0, none⟩ = some (.int .i64 0) ∧ ((w.alloc (.cells #[.int .i64 0, .slice none 0 0] 24)).alloc (.cells #[.int .i64 0, .slice none 0 0] 24)).cell? ⟨P, 1, none⟩ = some (.slice none 0 0) ∧ ((w.alloc (.cells #[.int .i64 0, .slice none 0 0] 24)).alloc (.cells #[.int .i64 0, .slice none 0 0] 24)).frozen? ⟨P, 0, none⟩ = false ∧ ((w.alloc (.cells #[.int .i64 0, .slice none 0 0] 24)).alloc (.cells #[.int .i64 0, .slice none 0 0] 24)).frozen? ⟨P, 1, none⟩ = false) := Lib.hid (by subst hP; exact ⟨by simp, by simp, by simp, by simp⟩)
  have HD0 : Hid (((w.alloc (.cells #[.int .i64 0, .slice none 0 0] 24)).alloc (.cells #[.int .i64 0, .slice none 0 0] 24)).cell? ⟨P + 1, 0, none⟩ = some (.int .i64 0) ∧ ((w.alloc (.cells #[.int .i64 0, .slice none 0 0] 24)).alloc (.cells #[.int .i64 0, .slice none 0 0] 24)).cell? ⟨P + 1, 1, none⟩ = some (.slice none 0 0) ∧ ((w.alloc (.cells #[.int .i64 0, .slice none 0 0] 24)).alloc (.cells #[.int .i64 0, .slice none 0 0] 24)).frozen? ⟨P + 1, 0, none⟩ = false ∧ ((w.alloc (.cells #[.int .i64 0, .slice none 0 0] 24)).alloc (.cells #[.int .i64 0, .slice none 0 0] 24)).frozen? ⟨P + 1, 1, none⟩ = false) := Lib.hid (by subst hP; exact ⟨by simp, by simp, by simp, by simp⟩)
  have HS0 : Hid (P + 2 ≤ ((w.alloc (.cells #[.int .i64 0, .slice none 0 0] 24)).alloc (.cells #[.int .i64 0, .slice none 0 0] 24)).heap.size) := Lib.hid (by subst hP; simp)
  clear hz
  go_enter Tryd.func15, Tryd.ntmps15
  go_wp2
  obtain ⟨W0, hW0⟩ : ∃ W0, (w.alloc (.cells #[.int .i64 0, .slice none 0 0] 24)).alloc (.cells #[.int .i64 0, .slice none 0 0] 24) = W0 := ⟨_, rfl⟩
  rw [hW0] at HB0 HC0 HD0 HS0 ⊢
  clear hW0
  go_loopw [6, 7] (fun nd i wr => ∃ (k d N : Nat) (es : List Ed) (v : Value), k ≤ m ∧ i = .int .i64 k ∧ nd = .int .i64 d ∧ Hid (parseG l = runP l (l.length + 2 - k) k d N es) ∧ Hid (Inv6 N es k d) ∧ Hid (wr.cell? ⟨P + 1, 0, none⟩ = some (.int .i64 (N : Int)) ∧ wr.cell? ⟨P + 1, 1, none⟩ = some v ∧ wr.frozen? ⟨P + 1, 0, none⟩ = false ∧ wr.frozen? ⟨P + 1, 1, none⟩ = false) ∧ Hid (wr.ownsRow (P + 2) 43 3 v es.length (flat es)) ∧ Hid (Below (P + 1) W0 wr) ∧ Hid (P + 2 ≤ wr.heap.size)) (fun _ i _ => m - (RowKit.intOf i).toNat)
  case atStart => exact ⟨0, 2, 0, [], _, by omega, rfl, rfl, Lib.hid rfl, Lib.hid inv6_zero, HD0, Lib.hid (World.ownsRow_nil _ _ _ _), Lib.hid (Below.refl _ _), HS0⟩
  case round =>
    obtain ⟨k, d, N, es, v, hk, rfl, rfl, HR, HI, HG, HO, HB, HS⟩ := hrel
    have p0 := cell_lt HB.out (show P < P + 1 by omega) HC0.out.1
    have p1 := cell_lt HB.out (show P < P + 1 by omega) HC0.out.2.1
    have p2 := frozen_lt HB.out (p := ⟨P, 0, none⟩) (show P < P + 1 by omega) HC0.out.2.2.1
    have p3 := frozen_lt HB.out (p := ⟨P, 1, none⟩) (show P < P + 1 by omega) HC0.out.2.2.2
    have HBw := Lib.hid (HB0.out.trans (HB.out.mono (Nat.le_succ P)))
    obtain ⟨j1, j2, j3, j4, j5⟩ := HI.out
    have hPs : P < wr.heap.size := by have := HS.out; omega
    by_cases hkd : k < d
    · by_cases hkm : k < m
      · obtain ⟨lb, lo, rfl, hc⟩ := HC.out (by omega)
        have hx0 : l[k]? = some (l[k]'(by omega)) := List.getElem?_eq_getElem (by omega)
        obtain ⟨x, hx⟩ : ∃ x, l[k]'(by omega) = x := ⟨_, rfl⟩
        rw [hx] at hx0
        have e0 := hc k _ hx0
        have hlb : lb < P := by have := World.block_lt_of_cell? w _ e0; simp only at this; omega
        have e0 := cell_lt HBw.out (show lb < P from hlb) e0
        have hxz := HZ.out x (List.mem_of_getElem? hx0)
        have HN := Lib.hid (fun W (hb : P + 2 ≤ W.heap.size) hown => rnum_any N j1 es v (P + 2) k (by omega) (by omega) (fun h2 h3 h4 => by rw [h4] at j2; simp at j2; omega) j5 x hxz W hb hown)
        obtain ⟨NN, hNN⟩ : ∃ NN, numN N es k x = NN := ⟨_, rfl⟩
        obtain ⟨EE, hEE⟩ : ∃ EE, numE N es k x = EE := ⟨_, rfl⟩
        obtain ⟨VV, hVV⟩ : ∃ VV, numV N es k x = VV := ⟨_, rfl⟩
        obtain ⟨FF, hFF⟩ : ∃ FF, wordF N es k x = FF := ⟨_, rfl⟩
        rw [hNN, hEE, hVV, hFF] at HN
        have g0 := HG.out.1
        have g1 := HG.out.2.1
        have g2 := HG.out.2.2.1
        have g3 := HG.out.2.2.2
        have N1 : P + 2 ≤ wr.drew.heap.size := by have := HS.out; simpa using this
        have N2 : P + 2 ≤ (wr.alloc (.cells #[.int .i64 0, .slice none 0 0] 24)).drew.heap.size := by have := HS.out; simp; omega
        have M1 : wr.drew.ownsRow (P + 2) 43 3 v es.length (flat es) := HO.out.drew
        have M2 : (wr.alloc (.cells #[.int .i64 0, .slice none 0 0] 24)).drew.ownsRow (P + 2) 43 3 v es.length (flat es) := (HO.out.alloc _).drew
        have R1 : some (P + 1) ≠ v.ownBlock := own_low HO.out (by omega)
        have R2 : some lb ≠ v.ownBlock := own_low HO.out (by omega)
        have BB : Below (P + 2) wr wr.drew := (Below.refl _ _).drew
        have hq1 : P + 1 < wr.heap.size := by have := HS.out; omega
        have hq2 : lb < wr.heap.size := by omega
        have K1 : P + 1 ≠ wr.heap.size := by omega
        have K2 : lb ≠ wr.heap.size := by omega
        have hi0 : (0 : Int) ≤ (k : Int) := Int.natCast_nonneg _
        have hi1 : (k : Int) < (m : Int) := by omega
        have hk3 : (k : Int) ≤ 49154 := by omega
        clear hx
        go_wp2
        go_region_held3 (fun w' => w'.cell? ⟨P + 1, 0, none⟩ = some (.int .i64 (N : Int)) ∧ w'.cell? ⟨P + 1, 1, none⟩ = some v ∧ w'.cell? ⟨lb, lo + k, none⟩ = some (.string x))
          (first
            | exact PS.on ((Below.refl _ _).drew) ⟨g0, g1, e0⟩
            | exact PS.on ((Below.refl _ _).alloc (Nat.le_refl _) _) ‹_›
            | exact PS.far hT.2.1 R1 R2 ‹_›
            | exact PS.again hs1 hs2 ‹_›
            | exact PS.set2 K1 K2 ‹_›)
          ((go_at_call 34; refine (HN.out _ (by first | exact N1 | exact N2) (by first | exact M1 | exact M2)).mono ?_; rintro e w1 ⟨a', c', rfl, hT⟩; have hs0 := hT.2.1.size; have hs1 : P + 1 < w1.heap.size := (by first | omega | (simp at hs0; omega)); have hs2 : lb < w1.heap.size := (by first | omega | (simp at hs0; omega)); (first
            | (have hq := pfin2 (Q := wr.heap.size) rfl (W0 := wr) (W := wr.drew) (G := P + 1) (x := .int .i64 (NN : Int)) BB N1 (by omega) M1 g0 g1 g2 g3 hT; obtain ⟨⟨q0, q1, q2, q3⟩, hq⟩ := hq; have HPF := Lib.hid hq; clear hq)
            | (have HPF := Lib.hid (pfin1 (W0 := wr) (W := wr.drew) (G := P + 1) (x := .int .i64 (NN : Int)) (T := 24) BB N1 (by omega) M1 g0 g1 g2 g3 hT)))))
        · obtain ⟨W4, hW4⟩ : ∃ W4, w1.alloc (.cells #[.int .i64 (NN : Int), .slice a' EE.length c'] 24) = W4 := ⟨_, rfl⟩
          rw [hW4] at HPF ⊢
          clear hW4 hT N1 N2 M1 M2 BB R1 R2 K1 K2 g0 g1 g2 g3 e0
          obtain ⟨t0, t1, t2, t3, t4, t5, t6, t7, t8, t9⟩ := HPF.out
          clear HPF
          have HO4 := Lib.hid t6
          have HB4 := Lib.hid t7
          clear t6 t7
          by_cases hF : FF = 0
          · subst hF
            have HRn := run_good HR.out hkd hx0 hFF
            have HIn := inv6_step HI.out hkd (word_ok hFF).2
            have hNN' : takeN N k (parseV x.data.toList) = NN := by rw [← hNN]; unfold numN; rw [if_pos hFF]
            have hEE' : takeE es k (parseV x.data.toList) = EE := by rw [← hEE]; unfold numE; rw [if_pos hFF]
            have hVV' : parseV x.data.toList = VV := by rw [← hVV]; unfold numV; rw [if_pos hFF]
            have hV1 : k = 1 → VV ≤ 16384 := fun h => by
              have h3 := (word_ok hFF).2
              rw [hVV'] at h3
              unfold numF at h3
              rw [if_neg (by omega), if_pos h] at h3
              split at h3
              · cases h3
              · omega
            rw [hNN', hEE', hVV'] at HRn
            rw [hNN', hEE', hVV'] at HIn
            have HRn := Lib.hid HRn
            have HIn := Lib.hid HIn
            have h2 := set2_cells t2 t3 (.int .i64 (NN : Int)) (.slice a' EE.length c')
            have HG5 : Hid (((W4.setCell ⟨P + 1, 0, none⟩ (.int .i64 (NN : Int))).setCell ⟨P + 1, 1, none⟩ (.slice a' EE.length c')).cell? ⟨P + 1, 0, none⟩ = some (.int .i64 (NN : Int)) ∧ ((W4.setCell ⟨P + 1, 0, none⟩ (.int .i64 (NN : Int))).setCell ⟨P + 1, 1, none⟩ (.slice a' EE.length c')).cell? ⟨P + 1, 1, none⟩ = some (.slice a' EE.length c') ∧ ((W4.setCell ⟨P + 1, 0, none⟩ (.int .i64 (NN : Int))).setCell ⟨P + 1, 1, none⟩ (.slice a' EE.length c')).frozen? ⟨P + 1, 0, none⟩ = false ∧ ((W4.setCell ⟨P + 1, 0, none⟩ (.int .i64 (NN : Int))).setCell ⟨P + 1, 1, none⟩ (.slice a' EE.length c')).frozen? ⟨P + 1, 1, none⟩ = false) := Lib.hid ⟨h2.1, h2.2, by rw [World.frozen?_setCell, World.frozen?_setCell]; exact t4, by rw [World.frozen?_setCell, World.frozen?_setCell]; exact t5⟩
            have HO5 := Lib.hid (owns_set (owns_set HO4.out (.int .i64 (NN : Int)) (q := ⟨P + 1, 0, none⟩) (show P + 1 < P + 2 by omega)) (.slice a' EE.length c') (q := ⟨P + 1, 1, none⟩) (show P + 1 < P + 2 by omega))
            have HB5 := Lib.hid ((((HB.out.trans (HB4.out.mono (show P + 1 ≤ P + 2 by omega)))).setCell (p := ⟨P + 1, 0, none⟩) (Nat.le_refl _) (.int .i64 (NN : Int))).setCell (p := ⟨P + 1, 1, none⟩) (Nat.le_refl _) (.slice a' EE.length c'))
            clear h2 hNN' hEE' hVV' hNN hEE hVV hFF HO4 HB4 HG HO HB HI HR HC0 HD0 HS0 HB0 HBw p0 p1 p2 p3 hx0 hc j1 j2 j4 j5 HN
            by_cases h1 : k = 1
            · have hb1 : ((k : Int) == 1) = true := by rw [h1]; rfl
              have hvv := hV1 h1
              have hvi : (VV : Int) ≤ 16384 := by omega
              rw [if_pos h1] at HRn HIn
              clear h1 hV1
              go_wp2
              go_roundw
              case rel => exact ⟨k + 1, 2 + 3 * VV, NN, EE, _, by omega, by go_num, by first | rfl | go_num, HRn, HIn, HG5, HO5, HB5, Lib.hid (by simp; omega)⟩
              case measure => simp [RowKit.intOf] <;> omega
            · have hb1 : ((k : Int) == 1) = false := by rw [beq_eq_false_iff_ne]; omega
              rw [if_neg h1] at HRn HIn
              clear h1 hV1
              go_wp2
              go_roundw
              case rel => exact ⟨k + 1, d, NN, EE, _, by omega, by go_num, rfl, HRn, HIn, HG5, HO5, HB5, Lib.hid (by simp; omega)⟩
              case measure => simp [RowKit.intOf] <;> omega
          · have hFb : (FF != 0) = true := by rw [bne_iff_ne]; exact hF
            have hX := run_bad HR.out hkd hx0 (by rw [hFF]; exact hF)
            rw [hFF] at hX
            have HX := Lib.hid hX
            have p0 := cell_lt HB4.out (show P < P + 2 by omega) p0
            have p1 := cell_lt HB4.out (show P < P + 2 by omega) p1
            have p2 := frozen_lt HB4.out (p := ⟨P, 0, none⟩) (show P < P + 2 by omega) p2
            have p3 := frozen_lt HB4.out (p := ⟨P, 1, none⟩) (show P < P + 2 by omega) p3
            have HB5 := Lib.hid (HBw.out.trans (HB4.out.mono (show P ≤ P + 2 by omega)))
            clear hX hF HO4 HB4 HG HO HB HI HR HC0 HD0 HS0 HB0 HBw hx0 hc j1 j2 j4 j5 HN t0 t1 t2 t3 t4 t5 t8 t9
            go_wp2
            have h2 := set2_cells p0 p1 (.int .i64 0) (.slice none 0 0)
            exact bodyPost_ret_by (resGTT rfl _ rfl h2.1 h2.2) rfl ⟨.slice none 0 0, by rw [HX.out]; rfl, by rw [HX.out]; exact edges_nil _, (by rw [hP]; exact (HB5.out.setCell (Nat.le_refl _) _).setCell (Nat.le_refl _) _)⟩
        · obtain ⟨W4, hW4⟩ : ∃ W4, (w1.setCell ⟨wr.heap.size, 0, none⟩ (.int .i64 (NN : Int))).setCell ⟨wr.heap.size, 1, none⟩ (.slice a' EE.length c') = W4 := ⟨_, rfl⟩
          rw [hW4] at HPF ⊢
          clear hW4 hT N1 N2 M1 M2 BB R1 R2 K1 K2 g0 g1 g2 g3 e0
          obtain ⟨t0, t1, t2, t3, t4, t5, t6, t7, t8, t9⟩ := HPF.out
          clear HPF
          have HO4 := Lib.hid t6
          have HB4 := Lib.hid t7
          clear t6 t7
          by_cases hF : FF = 0
          · subst hF
            have HRn := run_good HR.out hkd hx0 hFF
            have HIn := inv6_step HI.out hkd (word_ok hFF).2
            have hNN' : takeN N k (parseV x.data.toList) = NN := by rw [← hNN]; unfold numN; rw [if_pos hFF]
            have hEE' : takeE es k (parseV x.data.toList) = EE := by rw [← hEE]; unfold numE; rw [if_pos hFF]
            have hVV' : parseV x.data.toList = VV := by rw [← hVV]; unfold numV; rw [if_pos hFF]
            have hV1 : k = 1 → VV ≤ 16384 := fun h => by
              have h3 := (word_ok hFF).2
              rw [hVV'] at h3
              unfold numF at h3
              rw [if_neg (by omega), if_pos h] at h3
              split at h3
              · cases h3
              · omega
            rw [hNN', hEE', hVV'] at HRn
            rw [hNN', hEE', hVV'] at HIn
            have HRn := Lib.hid HRn
            have HIn := Lib.hid HIn
            have h2 := set2_cells t2 t3 (.int .i64 (NN : Int)) (.slice a' EE.length c')
            have HG5 : Hid (((W4.setCell ⟨P + 1, 0, none⟩ (.int .i64 (NN : Int))).setCell ⟨P + 1, 1, none⟩ (.slice a' EE.length c')).cell? ⟨P + 1, 0, none⟩ = some (.int .i64 (NN : Int)) ∧ ((W4.setCell ⟨P + 1, 0, none⟩ (.int .i64 (NN : Int))).setCell ⟨P + 1, 1, none⟩ (.slice a' EE.length c')).cell? ⟨P + 1, 1, none⟩ = some (.slice a' EE.length c') ∧ ((W4.setCell ⟨P + 1, 0, none⟩ (.int .i64 (NN : Int))).setCell ⟨P + 1, 1, none⟩ (.slice a' EE.length c')).frozen? ⟨P + 1, 0, none⟩ = false ∧ ((W4.setCell ⟨P + 1, 0, none⟩ (.int .i64 (NN : Int))).setCell ⟨P + 1, 1, none⟩ (.slice a' EE.length c')).frozen? ⟨P + 1, 1, none⟩ = false) := Lib.hid ⟨h2.1, h2.2, by rw [World.frozen?_setCell, World.frozen?_setCell]; exact t4, by rw [World.frozen?_setCell, World.frozen?_setCell]; exact t5⟩
            have HO5 := Lib.hid (owns_set (owns_set HO4.out (.int .i64 (NN : Int)) (q := ⟨P + 1, 0, none⟩) (show P + 1 < P + 2 by omega)) (.slice a' EE.length c') (q := ⟨P + 1, 1, none⟩) (show P + 1 < P + 2 by omega))
            have HB5 := Lib.hid ((((HB.out.trans (HB4.out.mono (show P + 1 ≤ P + 2 by omega)))).setCell (p := ⟨P + 1, 0, none⟩) (Nat.le_refl _) (.int .i64 (NN : Int))).setCell (p := ⟨P + 1, 1, none⟩) (Nat.le_refl _) (.slice a' EE.length c'))
            clear h2 hNN' hEE' hVV' hNN hEE hVV hFF HO4 HB4 HG HO HB HI HR HC0 HD0 HS0 HB0 HBw p0 p1 p2 p3 hx0 hc j1 j2 j4 j5 HN
            by_cases h1 : k = 1
            · have hb1 : ((k : Int) == 1) = true := by rw [h1]; rfl
              have hvv := hV1 h1
              have hvi : (VV : Int) ≤ 16384 := by omega
              rw [if_pos h1] at HRn HIn
              clear h1 hV1
              go_wp2
              go_roundw
              case rel => exact ⟨k + 1, 2 + 3 * VV, NN, EE, _, by omega, by go_num, by first | rfl | go_num, HRn, HIn, HG5, HO5, HB5, Lib.hid (by simp; omega)⟩
              case measure => simp [RowKit.intOf] <;> omega
            · have hb1 : ((k : Int) == 1) = false := by rw [beq_eq_false_iff_ne]; omega
              rw [if_neg h1] at HRn HIn
              clear h1 hV1
              go_wp2
              go_roundw
              case rel => exact ⟨k + 1, d, NN, EE, _, by omega, by go_num, rfl, HRn, HIn, HG5, HO5, HB5, Lib.hid (by simp; omega)⟩
              case measure => simp [RowKit.intOf] <;> omega
          · have hFb : (FF != 0) = true := by rw [bne_iff_ne]; exact hF
            have hX := run_bad HR.out hkd hx0 (by rw [hFF]; exact hF)
            rw [hFF] at hX
            have HX := Lib.hid hX
            have p0 := cell_lt HB4.out (show P < P + 2 by omega) p0
            have p1 := cell_lt HB4.out (show P < P + 2 by omega) p1
            have p2 := frozen_lt HB4.out (p := ⟨P, 0, none⟩) (show P < P + 2 by omega) p2
            have p3 := frozen_lt HB4.out (p := ⟨P, 1, none⟩) (show P < P + 2 by omega) p3
            have HB5 := Lib.hid (HBw.out.trans (HB4.out.mono (show P ≤ P + 2 by omega)))
            clear hX hF HO4 HB4 HG HO HB HI HR HC0 HD0 HS0 HB0 HBw hx0 hc j1 j2 j4 j5 HN t0 t1 t2 t3 t4 t5 t8 t9
            go_wp2
            have h2 := set2_cells p0 p1 (.int .i64 0) (.slice none 0 0)
            exact bodyPost_ret_by (resGTT rfl _ rfl h2.1 h2.2) rfl ⟨.slice none 0 0, by rw [HX.out]; rfl, by rw [HX.out]; exact edges_nil _, (by rw [hP]; exact (HB5.out.setCell (Nat.le_refl _) _).setCell (Nat.le_refl _) _)⟩
      · obtain rfl : k = m := by omega
        have HX := Lib.hid (run_few HR.out hkd hm.symm)
        clear HR HI HO j5 HG HC0 HD0 HS0 HB0
        go_wp2
        have h2 := set2_cells p0 p1 (.int .i64 0) (.slice none 0 0)
        exact bodyPost_ret_by (resGTT rfl _ rfl h2.1 h2.2) rfl ⟨.slice none 0 0, by rw [HX.out, hm]; rfl, by rw [HX.out]; exact edges_nil _, (by rw [hP]; exact (HBw.out.setCell (Nat.le_refl _) _).setCell (Nat.le_refl _) _)⟩
    · have hX := run_end HR.out (by omega) (by omega)
      have HX := Lib.hid hX
      have g0 := HG.out.1
      have g1 := HG.out.2.1
      obtain ⟨av, cv, rfl⟩ := slice_form HO.out
      have hd : (d : Int) ≤ 49154 := by omega
      by_cases h1 : d < m
      · have hdi : decide ((d : Int) < (m : Int)) = true := decide_eq_true (by omega)
        clear hX HI HR HO j5 HG HC0 HD0 HS0 HB0
        go_wp2
        have h2 := set2_cells p0 p1 (.int .i64 0) (.slice none 0 0)
        exact bodyPost_ret_by (resGTT rfl _ rfl h2.1 h2.2) rfl ⟨.slice none 0 0, by rw [HX.out, if_pos (by omega)]; rfl, by rw [HX.out, if_pos (by omega)]; exact edges_nil _, (by rw [hP]; exact (HBw.out.setCell (Nat.le_refl _) _).setCell (Nat.le_refl _) _)⟩
      · have hdi : decide ((d : Int) < (m : Int)) = false := decide_eq_false (by omega)
        clear hX HI HR j5 HG HC0 HD0 HS0 HB0 j2
        go_wp2
        have h2 := set2_cells p0 p1 (.int .i64 (N : Int)) (.slice av es.length cv)
        exact bodyPost_ret_by (resGTT rfl _ rfl h2.1 h2.2) rfl ⟨.slice av es.length cv, by rw [HX.out, if_neg (by omega)]; rfl, by rw [HX.out, if_neg (by omega)]; exact edges_own (owns_set (owns_set HO.out _ (show P < P + 2 by omega)) _ (show P < P + 2 by omega)), (by rw [hP]; exact (HBw.out.setCell (Nat.le_refl _) _).setCell (Nat.le_refl _) _)⟩
theorem rparse6_any {v : Value} {l : List ByteArray} (hl : l.length ≤ 100000) (hz : ∀ x ∈ l, x.size ≤ maxLen) (w : World) (h : StrsAt w v l) :
    Calls Tryd.prog 15 #[v] w fun e w' => ∃ v', e = .returned (.tuple #[.agg #[.int .i64 (parseG l).1, v'], .int .i64 (parseG l).2.2.1, .int .i64 (parseG l).2.2.2]) ∧ EdgesAt w' v' (parseG l).2.1 ∧ Below w.heap.size w w' := by
  obtain ⟨a, c, rfl, _, g⟩ := h
  exact rparse6_some l a l.length c rfl hl hz w (Lib.hid g)
end Go.Proofs.YtlecidgfchaonaaDoor
