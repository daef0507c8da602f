import Derived.Test.YtcgijabnknemiaaGraZi
set_option linter.unusedVariables false
set_option linter.unusedSimpArgs false
namespace Go.Proofs.Ytcgijabnknemiaa
open Go.RowKit Go.Maps
attribute [local go_sem ↓] Go.wp_at_zero Go.wp_at_succ
theorem map_below {w w' : World} {B b n : Nat} {D : DataW Unit} (h : OwnsI w b n D) (hb : Below B w w') (hB : b < B) : OwnsI w' b n D := by
  obtain ⟨es, clock, h1, h2⟩ := h
  exact ⟨es, clock, by rw [hb.block b hB]; exact h1, h2⟩
set_option maxHeartbeats 1000000 in
theorem psub_no (n : Int) (E : Value) (a : Option Addr) (m c : Nat) (vb : Bool) (hF : vb = false ∨ (vb = true ∧ (m : Int) ≠ n)) (w : World)
    (HV : Hid (∀ W, Below w.heap.size w W → Calls Try.prog 34 #[.agg #[.int .i64 n, E]] W fun e w' => e = .returned (.bool vb) ∧ Below W.heap.size W w')) :
    Calls Try.prog 25 #[.agg #[.int .i64 n, E], .slice a m c] w fun e w' => e = .returned (.tuple #[.agg #[.int .i64 0, .slice none 0 0], .slice none 0 0]) ∧ Below w.heap.size w w' := by
  have HB0 := Lib.hid (((Below.refl w.heap.size w).alloc (Nat.le_refl _) (.cells #[.int .i64 n, E] 24)).alloc (by simp) (.cells #[.int .i64 0, .slice none 0 0] 24))
  rcases hF with rfl | ⟨rfl, h⟩
  · go_enter Try.func25, Try.ntmps25
    go_wp2_with (go_at_call 34; refine (HV.out _ HB0.out).mono ?_; rintro e w1 ⟨rfl, hB⟩; have c0 := cell_on hB (p := ⟨w.heap.size + 1, 0, none⟩) (v := .int .i64 0) (by simp); have c1 := cell_on hB (p := ⟨w.heap.size + 1, 1, none⟩) (v := .slice none 0 0) (by simp); have f0 := frozen_on hB (p := ⟨w.heap.size + 1, 0, none⟩) (v := .int .i64 0) (by simp) (by simp); have f1 := frozen_on hB (p := ⟨w.heap.size + 1, 1, none⟩) (v := .slice none 0 0) (by simp) (by simp); have HB1 := Lib.hid (on_trans HB0.out hB); clear hB HV)
    have h2 := set2_cells c0 c1 (.int .i64 0) (.slice none 0 0)
    exact bodyPost_ret_by (resGT rfl _ rfl h2.1 h2.2) rfl ⟨rfl, (HB1.out.setCell (by simp) _).setCell (by simp) _⟩
  · have hne : ((m : Int) != n) = true := by rw [bne_iff_ne]; exact h
    clear h
    go_enter Try.func25, Try.ntmps25
    go_wp2_with (go_at_call 34; refine (HV.out _ HB0.out).mono ?_; rintro e w1 ⟨rfl, hB⟩; have b0 := cell_on hB (p := ⟨w.heap.size, 0, none⟩) (v := .int .i64 n) (by simp); have c0 := cell_on hB (p := ⟨w.heap.size + 1, 0, none⟩) (v := .int .i64 0) (by simp); have c1 := cell_on hB (p := ⟨w.heap.size + 1, 1, none⟩) (v := .slice none 0 0) (by simp); have f0 := frozen_on hB (p := ⟨w.heap.size + 1, 0, none⟩) (v := .int .i64 0) (by simp) (by simp); have f1 := frozen_on hB (p := ⟨w.heap.size + 1, 1, none⟩) (v := .slice none 0 0) (by simp) (by simp); have HB1 := Lib.hid (on_trans HB0.out hB); clear hB HV)
    have h2 := set2_cells c0 c1 (.int .i64 0) (.slice none 0 0)
    exact bodyPost_ret_by (resGT rfl _ rfl h2.1 h2.2) rfl ⟨rfl, (HB1.out.setCell (by simp) _).setCell (by simp) _⟩
set_option maxHeartbeats 4000000 in
theorem psub_right (n : Nat) (es : List Ed) (a : Option Addr) (m c : Nat) (hm : es.length = m) (hl : m ≤ 16384) (hn0 : 1 ≤ n) (hn : n ≤ 4096) (hends : Hid (∀ e ∈ es, 0 ≤ e.f ∧ e.f < n ∧ 0 ≤ e.t ∧ e.t < n)) (ks : List Bool) (kb ko kc : Nat) (hks : ks.length = n) (w : World)
    (HK : Hid (∀ j x, ks[j]? = some x → w.cell? ⟨kb, ko + j, none⟩ = some (.bool x)))
    (HC : Hid (0 < m → ∃ b off, a = some ⟨b, off, none⟩ ∧ ∀ (j : Nat) e, es[j]? = some e → w.cell? ⟨b, off + j * 3, none⟩ = some (.int .i64 e.f) ∧ w.cell? ⟨b, off + j * 3 + 1, none⟩ = some (.int .i64 e.t) ∧ w.cell? ⟨b, off + j * 3 + 2, none⟩ = some (.int .u64 (e.w : Int))))
    (HV : Hid (∀ W, Below w.heap.size w W → Calls Try.prog 34 #[.agg #[.int .i64 n, .slice a m c]] W fun e w' => e = .returned (.bool true) ∧ Below W.heap.size W w')) :
    Calls Try.prog 25 #[.agg #[.int .i64 n, .slice a m c], .slice (some ⟨kb, ko, none⟩) n kc] w fun e w' => ∃ v1 v2, e = .returned (.tuple #[.agg #[.int .i64 (rk ks n : Nat), v1], v2]) ∧ EdgesAt w' v1 (subE ks es) ∧ IntsAt w' v2 (natI (keptL ks n)) ∧ Below w.heap.size w w' := by
  have HB0 := Lib.hid (((Below.refl w.heap.size w).alloc (Nat.le_refl _) (.cells #[.int .i64 n, .slice a m c] 24)).alloc (by simp) (.cells #[.int .i64 0, .slice none 0 0] 24))
  have HRe := Lib.hid (fun W (hW : Below w.heap.size w W) => prenum_any n ks kb ko kc hks hn W (Lib.hid fun j x hx => cell_on hW (HK.out j x hx)))
  clear HK
  go_enter Try.func25, Try.ntmps25
  go_wp2_with (first
    | (go_at_call 34; refine (HV.out _ HB0.out).mono ?_; rintro e w1 ⟨rfl, hB⟩; have b0 := cell_on hB (p := ⟨w.heap.size, 0, none⟩) (v := .int .i64 n) (by simp); have b1 := cell_on hB (p := ⟨w.heap.size, 1, none⟩) (v := .slice a m c) (by simp); have c0 := cell_on hB (p := ⟨w.heap.size + 1, 0, none⟩) (v := .int .i64 0) (by simp); have c1 := cell_on hB (p := ⟨w.heap.size + 1, 1, none⟩) (v := .slice none 0 0) (by simp); have f0 := frozen_on hB (p := ⟨w.heap.size + 1, 0, none⟩) (v := .int .i64 0) (by simp) (by simp); have f1 := frozen_on hB (p := ⟨w.heap.size + 1, 1, none⟩) (v := .slice none 0 0) (by simp) (by simp); have HB1 := Lib.hid (on_trans HB0.out hB); clear hB HV)
    | (go_at_call 35; refine (HRe.out _ HB1.out).mono ?_; rintro e w2 ⟨D, au, cu, rfl, hM, hI, hO, hB⟩; have HM := Lib.hid hM; have HI := Lib.hid hI; have HW := Lib.hid hO; have HB2 := Lib.hid hB; have d1 := cell_on hB b1; have hsR : w.heap.size < w2.heap.size := World.block_lt_of_cell? w2 _ d1; clear hM hI hO hB HRe b0 b1))
  obtain ⟨A, hA⟩ : ∃ A, w1.heap.size = A := ⟨_, rfl⟩
  obtain ⟨B, hB⟩ : ∃ B, w2.heap.size = B := ⟨_, rfl⟩
  have hwA : w.heap.size + 1 < A := by have := World.block_lt_of_cell? w1 _ c0; rw [hA] at this; exact this
  rw [hA] at HM HW HB2
  have hAB : A < B := by have := HM.out.lt; rw [hB] at this; exact this
  have HBw := Lib.hid (HB1.out.trans (HB2.out.mono (by omega)))
  have g0 := cell_lt HB2.out (show w.heap.size + 1 < A by omega) c0
  have g1 := cell_lt HB2.out (show w.heap.size + 1 < A by omega) c1
  have g2 := frozen_lt HB2.out (p := ⟨w.heap.size + 1, 0, none⟩) (show w.heap.size + 1 < A by omega) f0
  have g3 := frozen_lt HB2.out (p := ⟨w.heap.size + 1, 1, none⟩) (show w.heap.size + 1 < A by omega) f1
  have hrl : rk ks n ≤ 4096 := Nat.le_trans (rk_le ks n) (by omega)
  have HS0 : Hid ((w2.alloc (.cells #[.int .i64 ((rk ks n : Nat) : Int), .slice none 0 0] 24)).cell? ⟨B, 0, none⟩ = some (.int .i64 ((rk ks n : Nat) : Int)) ∧ (w2.alloc (.cells #[.int .i64 ((rk ks n : Nat) : Int), .slice none 0 0] 24)).cell? ⟨B, 1, none⟩ = some (.slice none 0 0) ∧ (w2.alloc (.cells #[.int .i64 ((rk ks n : Nat) : Int), .slice none 0 0] 24)).frozen? ⟨B, 1, none⟩ = false) := Lib.hid (by subst hB; simp)
  have HL0 : Hid (Below B w2 (w2.alloc (.cells #[.int .i64 ((rk ks n : Nat) : Int), .slice none 0 0] 24))) := Lib.hid (by subst hB; exact (Below.refl _ _).alloc (Nat.le_refl _) _)
  have HZ0 : Hid (B + 1 ≤ (w2.alloc (.cells #[.int .i64 ((rk ks n : Nat) : Int), .slice none 0 0] 24)).heap.size) := Lib.hid (by subst hB; simp)
  have HCo : Hid (0 < m → ∃ b off, a = some ⟨b, off, none⟩ ∧ ∀ j e, es[j]? = some e → w2.cell? ⟨b, off + j * 3, none⟩ = some (.int .i64 e.f) ∧ w2.cell? ⟨b, off + j * 3 + 1, none⟩ = some (.int .i64 e.t) ∧ w2.cell? ⟨b, off + j * 3 + 2, none⟩ = some (.int .u64 (e.w : Int))) := Lib.hid (edges_on HBw.out HC.out)
  rw [hB, hA]
  clear c0 c1 f0 f1 HC HB0 d1
  go_loopw [37] (fun i wr => ∃ (k : Nat) (v : Value), k ≤ m ∧ i = .int .i64 k ∧ Hid (wr.cell? ⟨B, 0, none⟩ = some (.int .i64 ((rk ks n : Nat) : Int)) ∧ wr.cell? ⟨B, 1, none⟩ = some v ∧ wr.frozen? ⟨B, 1, none⟩ = false) ∧ Hid (wr.ownsRow (B + 1) 46 3 v (subE ks (es.take k)).length (flat (subE ks (es.take k)))) ∧ Hid (Below B w2 wr) ∧ Hid (B + 1 ≤ wr.heap.size)) (fun i _ => m - (RowKit.intOf i).toNat)
  case atStart => exact ⟨0, _, by omega, rfl, HS0, Lib.hid (World.ownsRow_nil _ _ _ _), HL0, HZ0⟩
  case round =>
    obtain ⟨k, v, hk, rfl, HS, HO, HB, HZ⟩ := hrel
    clear HS0 HL0 HZ0
    by_cases hkm : k < m
    · obtain ⟨b, off, rfl, hc⟩ := HCo.out (by omega)
      have he0 : es[k]? = some (es[k]'(by omega)) := List.getElem?_eq_getElem (by omega)
      obtain ⟨⟨f, t, x⟩, he⟩ : ∃ e, es[k]'(by omega) = e := ⟨_, rfl⟩
      rw [he] at he0
      obtain ⟨e1, e2, e3⟩ := hc k _ he0
      simp only at e1 e2 e3
      obtain ⟨n1, n2, n3, n4⟩ := hends.out ⟨f, t, x⟩ (he ▸ List.getElem_mem _)
      simp only at n1 n2 n3 n4
      obtain ⟨F, rfl⟩ : ∃ F : Nat, f = F := ⟨f.toNat, by omega⟩
      obtain ⟨T, rfl⟩ : ∃ T : Nat, t = T := ⟨t.toNat, by omega⟩
      have hbs : b < B := by have := World.block_lt_of_cell? w2 _ e1; rw [hB] at this; exact this
      have e1 := cell_lt HB.out (show b < B from hbs) e1
      have e2 := cell_lt HB.out (show b < B from hbs) e2
      have e3 := cell_lt HB.out (show b < B from hbs) e3
      have hF : F < n := by omega
      have hT : T < n := by omega
      obtain ⟨hF1, hF2⟩ := HI.out.2 F
      obtain ⟨hT1, hT2⟩ := HI.out.2 T
      obtain ⟨bF, hbF⟩ : ∃ bF, ks.getD F false = bF := ⟨_, rfl⟩
      obtain ⟨bT, hbT⟩ : ∃ bT, ks.getD T false = bT := ⟨_, rfl⟩
      rw [hbF, decide_eq_true hF, Bool.true_and] at hF1
      rw [hbT, decide_eq_true hT, Bool.true_and] at hT1
      have hst : staysB ks ⟨F, T, x⟩ = (bF && bT) := by
        show (ks.getD (F : Int).toNat false && ks.getD (T : Int).toNat false) = _
        rw [Int.toNat_natCast, Int.toNat_natCast, hbF, hbT]
      have htk : es.take (k + 1) = es.take k ++ [⟨F, T, x⟩] := by rw [List.take_succ_eq_append_getElem (by omega), he]
      have hlen : (subE ks (es.take k)).length ≤ 16384 := Nat.le_trans (subE_len _ _) (by rw [List.length_take]; omega)
      have hstep : (bF && bT) = false → subE ks (es.take (k + 1)) = subE ks (es.take k) := fun h => by rw [htk]; exact subE_no (by rw [hst]; exact h)
      have hstep2 : (bF && bT) = true → subE ks (es.take (k + 1)) = subE ks (es.take k) ++ [⟨(rk ks F : Nat), (rk ks T : Nat), x⟩] := fun h => by rw [htk]; exact subE_yes (by rw [hst]; exact h)
      have hkeyF : keyOf Try.prog 3 (.int .i64 (F : Int)) = some (.int .i64 (F : Int)) := keyOf_int_mk Try.underlying3 (wfN (by omega))
      have hkeyT : keyOf Try.prog 3 (.int .i64 (T : Int)) = some (.int .i64 (T : Int)) := keyOf_int_mk Try.underlying3 (wfN (by omega))
      have hba := (Below.refl wr.heap.size wr).alloc (Nat.le_refl _) (.cells #[.int .i64 (F : Int), .int .i64 (T : Int), .int .u64 (x : Int)] 46)
      have HMa := Lib.hid (map_below (map_below HM.out HB.out hAB) hba (by have := HZ.out; omega))
      have hs1 := HS.out.2.1
      have hs2 := HS.out.2.2
      have hBs : B < wr.heap.size := by have := HZ.out; omega
      have HS3 : Hid (_ ∧ _ ∧ _) := Lib.hid ⟨cell_on hba HS.out.1, cell_on hba hs1, frozen_on hba hs1 hs2⟩
      have HB3 := Lib.hid (HB.out.alloc (show B ≤ wr.heap.size by omega) (.cells #[.int .i64 (F : Int), .int .i64 (T : Int), .int .u64 (x : Int)] 46))
      have HZ3 : Hid (B + 1 ≤ (wr.alloc (.cells #[.int .i64 (F : Int), .int .i64 (T : Int), .int .u64 (x : Int)] 46)).heap.size) := Lib.hid (by simp; omega)
      have HO3 := Lib.hid (HO.out.alloc (.cells #[.int .i64 (F : Int), .int .i64 (T : Int), .int .u64 (x : Int)] 46))
      clear he he0 hst htk hc HCo hB hA
      cases bF
      · have HE := Lib.hid (hstep rfl)
        clear hstep hstep2 hba hF2 hT2 hT1 hbF hbT
        generalize hgT : Maps.has D (Lit.int .i64 (T : Int)) = bT'
        go_wp2_with (first
          | (at_lookup; refine wpList_lookup_own_ok_int _ rfl _ _ 52 rfl 3 3 .i64 lawI Try.underlying52 Try.underlying3 (zeroI _) A n D rfl HMa.out _ _ rfl hkeyF ?_; intro cF hatF hwF; clear hatF hwF hkeyF)
          | (at_lookup; refine wpList_lookup_own_ok_int _ rfl _ _ 52 rfl 3 3 .i64 lawI Try.underlying52 Try.underlying3 (zeroI _) A n D rfl HMa.out _ _ rfl hkeyT ?_; intro cT hatT hwT; clear hatT hwT hkeyT))
        go_roundw
        case rel => exact ⟨k + 1, v, by omega, by go_num, HS3, Lib.hid (by rw [HE.out]; exact HO3.out), HB3, HZ3⟩
        case measure => simp [RowKit.intOf] <;> omega
      · cases bT
        · have HE := Lib.hid (hstep rfl)
          clear hstep hstep2 hba hF2 hT2 hbF hbT
          go_wp2_with (first
            | (at_lookup; refine wpList_lookup_own_ok_int _ rfl _ _ 52 rfl 3 3 .i64 lawI Try.underlying52 Try.underlying3 (zeroI _) A n D rfl HMa.out _ _ rfl hkeyF ?_; intro cF hatF hwF; have HcF := Lib.hid hatF; clear hatF hwF hkeyF)
            | (at_lookup; refine wpList_lookup_own_ok_int _ rfl _ _ 52 rfl 3 3 .i64 lawI Try.underlying52 Try.underlying3 (zeroI _) A n D rfl HMa.out _ _ rfl hkeyT ?_; intro cT hatT hwT; have HcT := Lib.hid hatT; clear hatT hwT hkeyT))
          go_roundw
          case rel => exact ⟨k + 1, v, by omega, by go_num, HS3, Lib.hid (by rw [HE.out]; exact HO3.out), HB3, HZ3⟩
          case measure => simp [RowKit.intOf] <;> omega
        · have HE := Lib.hid (hstep2 rfl)
          have HF2 := Lib.hid (hF2 hF hbF (.lit (.int .i64 0)))
          have HT2 := Lib.hid (hT2 hT hbT (.lit (.int .i64 0)))
          obtain ⟨i0, hi, hz0, hz1, hz2⟩ := info_parts infoE
          have HZa : Hid (wr.heap.size + 1 = (wr.alloc (.cells #[.int .i64 (F : Int), .int .i64 (T : Int), .int .u64 (x : Int)] 46)).heap.size) := Lib.hid (by simp)
          clear hstep hstep2 hba hF2 hT2 hbF hbT
          go_wp2_with (first
            | (at_lookup; refine wpList_lookup_own_ok_int _ rfl _ _ 52 rfl 3 3 .i64 lawI Try.underlying52 Try.underlying3 (zeroI _) A n D rfl HMa.out _ _ rfl hkeyF ?_; intro cF hatF hwF; have HcF := Lib.hid hatF; clear hatF hwF hkeyF)
            | (at_lookup; refine wpList_lookup_own_ok_int _ rfl _ _ 52 rfl 3 3 .i64 lawI Try.underlying52 Try.underlying3 (zeroI _) A n D rfl HMa.out _ _ rfl hkeyT ?_; intro cT hatT hwT; have HcT := Lib.hid hatT; clear hatT hwT hkeyT)
            | (at_builtin; refine wpList_append_lies _ rfl _ _ 22 rfl (B + 1) 46 i0 (.agg #[.int .i64 0, .int .i64 0, .int .u64 0]) 3 24 Try.underlying22 hi hz0 hz1 hz2 rfl (by decide) _ _ _ rfl (HO3.out.alloc (.cells #[.int .i64 cF, .int .i64 cT, .int .u64 (x : Int)] 46)) ⟨wr.heap.size + 1, 0, none⟩ 1 1 [.int .i64 cF, .int .i64 cT, .int .u64 (x : Int)] rfl rfl ?c1 ?c2 (by omega) ?c3 ?c4 ?c5 _ rfl ?_))
          case c1 => exact World.news_of_block (heap_alloc2_new wr _ _)
          case c2 => intro u hu; simp at hu; rcases hu with rfl | rfl | rfl <;> rfl
          case c3 => unfold maxLen; omega
          case c4 => omega
          case c5 => simp; omega
          intro gg cap w3 hown1 hgrow hat hlt2
          have hOa := HO3.out.alloc (.cells #[.int .i64 cF, .int .i64 cT, .int .u64 (x : Int)] 46)
          have hbc := (Below.refl _ (wr.alloc (.cells #[.int .i64 (F : Int), .int .i64 (T : Int), .int .u64 (x : Int)] 46))).alloc (Nat.le_refl _) (.cells #[.int .i64 cF, .int .i64 cT, .int .u64 (x : Int)] 46)
          have p0 := grow_cell hOa hgrow (show B < B + 1 by omega) (cell_on hbc HS3.out.1)
          have p1 := grow_cell hOa hgrow (show B < B + 1 by omega) (cell_on hbc HS3.out.2.1)
          have p2 := grow_frozen hOa hgrow (show B < B + 1 by omega) (cell_on hbc HS3.out.2.1) (frozen_on hbc HS3.out.2.1 HS3.out.2.2)
          have HB4 := Lib.hid (below_grow (HB3.out.trans (hbc.mono (by simp; omega))) (show B ≤ B + 1 by omega) (by simp; omega) hOa hgrow)
          have HZ4 : Hid (B + 1 ≤ w3.heap.size) := Lib.hid (by have := hgrow.size; simp at this; omega)
          have eF : cF = ((rk ks F : Nat) : Int) := by have h1 := HcF.out; rw [HF2.out] at h1; injection h1 with h1; injection h1 with _ h1; exact h1.symm
          have eT : cT = ((rk ks T : Nat) : Int) := by have h1 := HcT.out; rw [HT2.out] at h1; injection h1 with h1; injection h1 with _ h1; exact h1.symm
          have HO4 : Hid (w3.ownsRow (B + 1) 46 3 (.slice (some ⟨gg, 0, none⟩) ((subE ks (es.take k)).length + 1) cap) (subE ks (es.take (k + 1))).length (flat (subE ks (es.take (k + 1))))) := Lib.hid (by
            rw [HE.out, flat_snoc, List.length_append]
            rw [eF, eT] at hown1
            exact hown1)
          have P0 := Lib.hid p0
          clear hown1 hgrow hat hOa hbc HS3 HO3 HB3 HZ3 HcF HcT HF2 HT2 eF eT p0
          go_wp2
          go_roundw
          case rel => exact ⟨k + 1, _, by omega, by go_num, Lib.hid ⟨by rw [World.cell?_setCell_other _ _ _ _ (by simp)]; exact P0.out, World.cell?_setCell_same _ _ _ p1, by rw [World.frozen?_setCell]; exact p2⟩, Lib.hid (owns_set HO4.out _ (show B < B + 1 by omega)), Lib.hid (HB4.out.setCell (Nat.le_refl _) _), Lib.hid (by have := HZ4.out; simpa using this)⟩
          case measure => simp [RowKit.intOf] <;> omega
    · obtain rfl : k = m := by omega
      rw [List.take_of_length_le (by omega)] at HO
      obtain ⟨av, cv, rfl⟩ := slice_form HO.out
      have s0 := HS.out.1
      have s1 := HS.out.2.1
      have g0 := cell_lt HB.out (show w.heap.size + 1 < B by omega) g0
      have g1 := cell_lt HB.out (show w.heap.size + 1 < B by omega) g1
      have g2 := frozen_lt HB.out (p := ⟨w.heap.size + 1, 0, none⟩) (show w.heap.size + 1 < B by omega) g2
      have g3 := frozen_lt HB.out (p := ⟨w.heap.size + 1, 1, none⟩) (show w.heap.size + 1 < B by omega) g3
      have HZ9 : Hid (Below w.heap.size w wr) := Lib.hid (HBw.out.trans (HB.out.mono (by omega)))
      have HW9 := Lib.hid (owns_below HW.out HB.out (Nat.le_of_eq hB))
      clear HS HCo HM HI HW HB HB2
      go_wp2
      have h2 := set2_cells g0 g1 (.int .i64 ((rk ks n : Nat) : Int)) (.slice av (subE ks es).length cv)
      have B9 := (HZ9.out.setCell (p := ⟨w.heap.size + 1, 0, none⟩) (by simp) (.int .i64 ((rk ks n : Nat) : Int))).setCell (p := ⟨w.heap.size + 1, 1, none⟩) (by simp) (.slice av (subE ks es).length cv)
      refine bodyPost_ret_by (resGT rfl _ rfl h2.1 h2.2) rfl ⟨_, _, rfl, edges_own (owns_set (owns_set HO.out _ (show w.heap.size + 1 < B + 1 by omega)) _ (show w.heap.size + 1 < B + 1 by omega)), ints_own (owns_set (owns_set HW9.out _ (show w.heap.size + 1 < A + 1 by omega)) _ (show w.heap.size + 1 < A + 1 by omega)), B9⟩
end Go.Proofs.Ytcgijabnknemiaa
