import Derived.Test.YtlecidgfchaonaaDoorMQ
set_option linter.unusedVariables false
set_option linter.unusedSimpArgs false
namespace Go.Proofs.YtlecidgfchaonaaDoor
open Go.RowKit
attribute [local go_sem ↓] Go.wp_at_zero Go.wp_at_succ
/-- The result's variable: some cells that may be written. -/
def ResAt (w : World) (P : Nat) : Prop := (∃ x, w.cell? ⟨P, 0, none⟩ = some x) ∧ (∃ y, w.cell? ⟨P, 1, none⟩ = some y) ∧ w.frozen? ⟨P, 0, none⟩ = false ∧ w.frozen? ⟨P, 1, none⟩ = false
theorem ResAt.lt {w w1 : World} {P B : Nat} (h : ResAt w P) (hb : Below B w w1) (hP : P < B) : ResAt w1 P := by
  obtain ⟨⟨x, hx⟩, ⟨y, hy⟩, f0, f1⟩ := h
  exact ⟨⟨x, cell_lt hb hP hx⟩, ⟨y, cell_lt hb hP hy⟩, frozen_lt (p := ⟨P, 0, none⟩) hb hP f0, frozen_lt (p := ⟨P, 1, none⟩) hb hP f1⟩
theorem start_at (w : World) (a : Option Addr) (m c : Nat) (P : Nat) (hP : w.heap.size = P) :
    ResAt (((w.alloc (.cells #[.int .i64 0, .slice none 0 0] 24)).alloc (.cells #[.slice a m c, .int .i64 0] 63)).alloc (.cells #[.int .i64 0, .slice none 0 0, .int .i64 0] 65)) P ∧ RdAt (((w.alloc (.cells #[.int .i64 0, .slice none 0 0] 24)).alloc (.cells #[.slice a m c, .int .i64 0] 63)).alloc (.cells #[.int .i64 0, .slice none 0 0, .int .i64 0] 65)) (P + 1) (.slice a m c) 0 ∧ DrAt (((w.alloc (.cells #[.int .i64 0, .slice none 0 0] 24)).alloc (.cells #[.slice a m c, .int .i64 0] 63)).alloc (.cells #[.int .i64 0, .slice none 0 0, .int .i64 0] 65)) (P + 1 + 1) 0 (.slice none 0 0) 0 ∧ Below P w (((w.alloc (.cells #[.int .i64 0, .slice none 0 0] 24)).alloc (.cells #[.slice a m c, .int .i64 0] 63)).alloc (.cells #[.int .i64 0, .slice none 0 0, .int .i64 0] 65)) ∧ (((w.alloc (.cells #[.int .i64 0, .slice none 0 0] 24)).alloc (.cells #[.slice a m c, .int .i64 0] 63)).alloc (.cells #[.int .i64 0, .slice none 0 0, .int .i64 0] 65)).heap.size = P + 3 := by
  subst hP
  have on : ∀ (W : World) (o : Obj), Below W.heap.size W (W.alloc o) := fun W o => (Below.refl _ W).alloc (Nat.le_refl _) o
  obtain ⟨w1, h1⟩ : ∃ w1, w.alloc (.cells #[.int .i64 0, .slice none 0 0] 24) = w1 := ⟨_, rfl⟩
  have s1 : w1.heap.size = w.heap.size + 1 := by rw [← h1]; simp
  have r0 : w1.cell? ⟨w.heap.size, 0, none⟩ = some (.int .i64 0) ∧ w1.cell? ⟨w.heap.size, 1, none⟩ = some (.slice none 0 0) ∧ w1.frozen? ⟨w.heap.size, 0, none⟩ = false ∧ w1.frozen? ⟨w.heap.size, 1, none⟩ = false := by rw [← h1]; simp
  have b1 := on w (.cells #[.int .i64 0, .slice none 0 0] 24)
  rw [h1] at b1 ⊢
  obtain ⟨w2, h2⟩ : ∃ w2, w1.alloc (.cells #[.slice a m c, .int .i64 0] 63) = w2 := ⟨_, rfl⟩
  have s2 : w2.heap.size = w.heap.size + 1 + 1 := by rw [← h2]; simp [s1]
  have r1 : w2.cell? ⟨w1.heap.size, 0, none⟩ = some (.slice a m c) ∧ w2.cell? ⟨w1.heap.size, 1, none⟩ = some (.int .i64 0) ∧ w2.frozen? ⟨w1.heap.size, 1, none⟩ = false := by rw [← h2]; simp
  have b2 := on w1 (.cells #[.slice a m c, .int .i64 0] 63)
  rw [h2] at b2 ⊢
  obtain ⟨w3, h3⟩ : ∃ w3, w2.alloc (.cells #[.int .i64 0, .slice none 0 0, .int .i64 0] 65) = w3 := ⟨_, rfl⟩
  have s3 : w3.heap.size = w.heap.size + 3 := by rw [← h3]; simp [s2]
  have r2 : w3.cell? ⟨w2.heap.size, 0, none⟩ = some (.int .i64 0) ∧ w3.cell? ⟨w2.heap.size, 1, none⟩ = some (.slice none 0 0) ∧ w3.cell? ⟨w2.heap.size, 2, none⟩ = some (.int .i64 0) ∧ w3.frozen? ⟨w2.heap.size, 0, none⟩ = false ∧ w3.frozen? ⟨w2.heap.size, 1, none⟩ = false ∧ w3.frozen? ⟨w2.heap.size, 2, none⟩ = false := by rw [← h3]; simp
  have b3 := on w2 (.cells #[.int .i64 0, .slice none 0 0, .int .i64 0] 65)
  rw [h3] at b3 ⊢
  have b13 := on_trans b2 b3
  rw [s1] at r1
  rw [s2] at r2
  refine ⟨⟨⟨_, cell_on b13 r0.1⟩, ⟨_, cell_on b13 r0.2.1⟩, frozen_on b13 r0.1 r0.2.2.1, frozen_on b13 r0.2.1 r0.2.2.2⟩, ⟨cell_on b3 r1.1, cell_on b3 r1.2.1, frozen_on b3 r1.2.1 r1.2.2⟩, r2, on_trans b1 b13, s3⟩
def atR (w : World) (P : Nat) : Nat := match w.cell? ⟨P + 1, 1, none⟩ with | some v => (RowKit.intOf v).toNat | none => 0
theorem atR_is {w : World} {P k : Nat} {v : Value} (h : RdAt w (P + 1) v k) : atR w P = k := by unfold atR; rw [h.2.1]; simp [RowKit.intOf]
set_option maxHeartbeats 4000000 in
theorem pparse6_some (l : List ByteArray) (a : Option Addr) (m c : Nat) (hm : l.length = m) (hl : m ≤ 100000) (hz : ∀ x ∈ l, x.size ≤ maxLen) (w : World)
    (HC : Hid (0 < m → ∃ b off, a = some ⟨b, off, none⟩ ∧ ∀ j x, l[j]? = some x → w.cell? ⟨b, off + j, none⟩ = some (.string x))) :
    Calls Tryd.prog 14 #[.slice a m c] w fun e w' => ∃ v', e = .returned (.tuple #[.agg #[.int .i64 (parseG l).1, v'], .int .i64 (parseG l).2.2.1, .int .i64 (parseG l).2.2.2]) ∧ EdgesAt w' v' (parseG l).2.1 ∧ Below w.heap.size w w' := by
  have hm1 : (m : Int) ≤ 100000 := by omega
  have HE := head_case l (by omega) hz
  have HEd := Lib.hid (fun (j M hi : Nat) (es : List Ed) (hN : hi + 1 ≤ 4096) (h : parseG l = runP l (l.length + 2 - (2 + 3 * j)) (2 + 3 * j) (2 + 3 * M) (hi + 1) es) (hj : j < M) (hlj : 2 + 3 * j ≤ l.length) => edge_case l (by omega) hz hN h hj hlj)
  obtain ⟨P, hP⟩ : ∃ P, w.heap.size = P := ⟨_, rfl⟩
  obtain ⟨t0, t1, t2, t3, t4⟩ := start_at w a m c P hP
  have HRes := Lib.hid t0
  have HRd := Lib.hid t1
  have HDr := Lib.hid t2
  have HB0 := Lib.hid t3
  have hW : ∀ W, Below P w W → WdAt W (P + 1) a l := fun W hB h0 => by
    obtain ⟨b, off, e, hc⟩ := HC.out (by omega)
    have hb : b < P := by have := World.block_lt_of_cell? w _ (hc 0 _ (List.getElem?_eq_getElem h0)); simp only at this; omega
    exact ⟨b, off, e, by omega, fun j x hx => cell_lt hB hb (hc j x hx)⟩
  have HW := Lib.hid hW
  have hmf : ∀ (fn : Fn) (first cap : Array Value) (w : World), (Instr.makeFunc fn first cap).run Tryd.prog w = .ok (.func fn first cap) w := fun _ _ _ _ => rfl
  clear t0 t1 t2 t3 hW hz
  rw [hP]
  go_enter Tryd.func14, Tryd.ntmps14
  go_wp2
  refine wp_scope_jumps 0 (fun a' w' => ∃ (K : Nat) (F : Int) (u1 u3 u4 u8 u9 u10 u11 u12 u13 u14 u15 u16 u17 u18 u19 u20 u21 u22 u23 u24 u25 u26 u27 u28 u29 u30 u31 : Value), a' = { tmps := #[.slice a m c, u1, .pointer (some ⟨P, 0, none⟩), u3, u4, .pointer (some ⟨P + 1, 0, none⟩), .pointer (some ⟨P + 1 + 1, 0, none⟩), .int .i64 F, u8, u9, u10, u11, u12, u13, u14, u15, u16, u17, u18, u19, u20, u21, u22, u23, u24, u25, u26, u27, u28, u29, u30, u31], defers := [] } ∧ Hid (parseG l = (0, [], ((K : Nat) : Int), F)) ∧ Hid (RdAt w' (P + 1) (.slice a m c) K ∧ ResAt w' P ∧ Below P w w')) (fun _ _ => 0) rfl ?_ ?_
  · rcases HE with ⟨F, K, hF, hpar, hH⟩ | ⟨hi, M, hN, hM, hl2, hpar, hH⟩
    · unfold HeadBad nextVal at hH
      rw [hm] at hH
      have HHH := Lib.hid hH
      have hb0 : (F != 0) = true := by rw [bne_iff_ne]; exact hF
      have HPar := Lib.hid hpar
      clear hF hH hpar
      go_wp2_with (go_at_call 30; refine (HHH.out (P + 1) c (P + 1 + 1) 0 a (.slice none 0 0) _ HRd.out (HW.out _ HB0.out) HDr.out (by omega)).mono ?_; rintro e w1 ⟨rfl, hR, hB⟩; have HR1 := Lib.hid hR; have HB1 := Lib.hid hB; clear hR hB HHH)
      go_step3
      have hs1 : Below (P + 1) _ w1 := HB1.out (P + 1) (by omega) (by omega) (by omega)
      exact ⟨rfl, K, F, _, _, _, _, _, _, _, _, _, _, _, _, _, _, _, _, _, _, _, _, _, _, _, _, _, _, _, rfl, HPar, Lib.hid ⟨HR1.out, HRes.out.lt hs1 (by omega), HB0.out.trans (HB1.out P (by omega) (by omega) (by omega))⟩⟩
    · unfold HeadGood nextVal at hH
      rw [hm] at hH
      have HHH := Lib.hid hH
      have HPar := Lib.hid hpar
      clear hH hpar
      go_wp2_with (go_at_call 30; refine (HHH.out (P + 1) c (P + 1 + 1) 0 a (.slice none 0 0) _ HRd.out (HW.out _ HB0.out) HDr.out (by omega)).mono ?_; rintro e w1 ⟨rfl, hR, hD, _, hB⟩; have HR1 := Lib.hid hR; have HD1 := Lib.hid hD; have HB1 := Lib.hid hB; clear hR hB HHH hD)
      have hs1 : Below (P + 1) _ w1 := HB1.out (P + 1) (by omega) (by omega) (by omega)
      have HRs1 := Lib.hid (HRes.out.lt hs1 (by omega))
      have HBw1 := Lib.hid (HB0.out.trans (HB1.out P (by omega) (by omega) (by omega)))
      have HS1 : Hid (P + 1 + 1 + 1 ≤ w1.heap.size) := Lib.hid (by have := hs1.size; omega)
      clear hs1 HB1 HB0 HRes HRd HDr t4
      go_loopw [7] (fun f wr => ∃ (j : Nat) (es : List Ed) (v : Value), j ≤ M ∧ es.length = j ∧ f = .int .i64 0 ∧ 2 + 3 * j ≤ m ∧ Hid (parseG l = runP l (l.length + 2 - (2 + 3 * j)) (2 + 3 * j) (2 + 3 * M) (hi + 1) es) ∧ Hid (RdAt wr (P + 1) (.slice a m c) (2 + 3 * j)) ∧ Hid (DrAt wr (P + 1 + 1) (hi + 1) v M) ∧ Hid (wr.ownsRow (P + 1 + 1 + 1) 43 3 v j (flat es)) ∧ Hid (ResAt wr P) ∧ Hid (Below P w wr) ∧ Hid (P + 1 + 1 + 1 ≤ wr.heap.size)) (fun _ wr => 2 + 3 * M - atR wr P)
      case atStart => exact ⟨0, [], _, Nat.zero_le _, rfl, rfl, by omega, HPar, HR1, HD1, Lib.hid (World.ownsRow_nil _ _ _ _), HRs1, HBw1, HS1⟩
      case round =>
        obtain ⟨j, es, v, hj, hes, rfl, hj2, HR, HRd, HDr, HO, HRs, HBw, HS⟩ := hrel
        obtain ⟨av, cv, rfl⟩ := slice_form HO.out
        have HWh := Lib.hid (whole_any (P + 1 + 1) (hi + 1) M j cv av wr HDr.out)
        have e1 : decide (0 < hi + 1) = true := decide_eq_true (by omega)
        rw [e1, Bool.true_and] at HWh
        by_cases hjM : j = M
        · subst hjM
          have e2 : decide (j = j) = true := decide_eq_true rfl
          rw [e2] at HWh
          clear e1 e2 HEd HR1 HD1 HRs1 HBw1 HS1 HPar
          have HEnd := run_end HR.out (Nat.le_refl _) (by omega)
          by_cases hjm : 2 + 3 * j < m
          · rw [if_pos (by omega)] at HEnd
            have HE2 := Lib.hid HEnd
            have q1 : decide (2 + 3 * (j : Int) < (m : Int)) = true := decide_eq_true (by omega)
            have q2 : decide (2 + 3 * j < m) = true := decide_eq_true hjm
            clear HEnd
            go_wp2_with (go_at_call 32; refine HWh.out.mono ?_; rintro e w2 ⟨rfl, hB⟩; have g1 := cell_on hB HRd.out.2.1; have HB2 := Lib.hid hB; clear hB HWh)
            go_step3
            exact ⟨rfl, (2 + 3 * j), 3, _, _, _, _, _, _, _, _, _, _, _, _, _, _, _, _, _, _, _, _, _, _, _, _, _, _, _, rfl, HE2, Lib.hid ⟨HRd.out.on HB2.out, HRs.out.lt (B := wr.heap.size) HB2.out (by have := HS.out; omega), HBw.out.trans (HB2.out.mono (by have := HS.out; omega))⟩⟩
          · rw [if_neg (by omega)] at HEnd
            have HE2 := Lib.hid HEnd
            have q1 : decide (2 + 3 * (j : Int) < (m : Int)) = false := decide_eq_false (by omega)
            have q2 : decide (2 + 3 * j < m) = false := decide_eq_false hjm
            clear HEnd
            go_wp2_with (go_at_call 32; refine HWh.out.mono ?_; rintro e w2 ⟨rfl, hB⟩; have g1 := cell_on hB HRd.out.2.1; obtain ⟨d0, d1, d2, _, _, _⟩ := HDr.out.on hB; obtain ⟨⟨x, x0⟩, ⟨y, x1⟩, x2, x3⟩ := HRs.out.lt (B := wr.heap.size) hB (by have := HS.out; omega); have HB2 := Lib.hid hB; clear hB HWh)
            simp only [Exit.jump]
            have h2 := set2_cells x0 x1 (.int .i64 ((hi + 1 : Nat) : Int)) (.slice av j cv)
            have HOw := owns_on HO.out HB2.out
            refine bodyPost_ret_by (resGTT rfl _ rfl h2.1 h2.2) rfl ⟨.slice av j cv, by rw [HE2.out]; rfl, by rw [HE2.out]; exact edges_own (by rw [hes]; exact owns_set (owns_set HOw _ (show P < P + 1 + 1 + 1 by omega)) _ (show P < P + 1 + 1 + 1 by omega)), ((HBw.out.trans (HB2.out.mono (by have := HS.out; omega))).setCell (Nat.le_refl _) _).setCell (Nat.le_refl _) _⟩
        · have e2 : decide (j = M) = false := decide_eq_false hjM
          rw [e2] at HWh
          have HA := Lib.hid (atR_is HRd.out)
          have hRv : some (P + 1) ≠ (Value.slice av j cv).ownBlock := own_low HO.out (by omega)
          have HcE := HEd.out j M hi es hN HR.out (by omega) (by omega)
          clear e1 e2 HEd HR1 HD1 HRs1 HBw1 HS1 HPar HR
          rcases HcE with ⟨F, K, hF, hpar, hH⟩ | ⟨x, hlj, hpar, hH⟩
          · unfold EdgeBad nextVal at hH
            rw [hm] at hH
            have HHH := Lib.hid hH
            have hb0 : (F != 0) = true := by rw [bne_iff_ne]; exact hF
            have HPar := Lib.hid hpar
            clear hF hH hpar
            go_wp2_with (first
              | (go_at_call 32; refine HWh.out.mono ?_; rintro e w2 ⟨rfl, hB⟩; have HB2 := Lib.hid hB; have HBw2 := Lib.hid (HBw.out.trans (hB.mono (by have := HS.out; omega))); clear hB HWh)
              | (go_at_call 33; refine (HHH.out (P + 1) c (P + 1 + 1) a (.slice av j cv) _ (HRd.out.on HB2.out) (HW.out _ HBw2.out) (HDr.out.on HB2.out) (by omega)).mono ?_; rintro e w3 ⟨rfl, hR, hG⟩; have HR3 := Lib.hid hR; have HG3 := Lib.hid hG; clear hR hG HHH))
            go_step3
            have hs2 := HB2.out.size
            have hs3 := HS.out
            have hb3 : Below (P + 1) wr w3 := (HB2.out.mono (by omega)).trans (g_low HG3.out (by omega) (Nat.le_refl _))
            exact ⟨rfl, K, F, _, _, _, _, _, _, _, _, _, _, _, _, _, _, _, _, _, _, _, _, _, _, _, _, _, _, _, rfl, HPar, Lib.hid ⟨HR3.out, HRs.out.lt hb3 (by omega), HBw.out.trans (hb3.mono (Nat.le_succ P))⟩⟩
          · unfold EdgeGood nextVal at hH
            rw [hm] at hH
            have HHH := Lib.hid hH
            have HPar := Lib.hid hpar
            clear hH hpar
            go_wp2_with (first
              | (go_at_call 32; refine HWh.out.mono ?_; rintro e w2 ⟨rfl, hB⟩; have HB2 := Lib.hid hB; have HBw2 := Lib.hid (HBw.out.trans (hB.mono (by have := HS.out; omega))); have HS2 : Hid (P + 1 + 1 + 1 ≤ w2.heap.size) := Lib.hid (by have := HS.out; have := hB.size; omega); clear hB HWh)
              | (go_at_call 33; refine (HHH.out (P + 1) c (P + 1 + 1) (P + 1 + 1 + 1) j es a (.slice av j cv) _ (HRd.out.on HB2.out) (HW.out _ HBw2.out) (HDr.out.on HB2.out) (by omega) hes (by omega) (owns_on HO.out HB2.out) hRv (by omega) HS2.out).mono ?_; rintro e w3 ⟨v', rfl, hR, hD, hO, hS, _, hB⟩; have HR3 := Lib.hid hR; have HD3 := Lib.hid hD; have HO3 := Lib.hid hO; have HS3 := Lib.hid hS; have HB3 := Lib.hid hB; clear hR hD hO hS hB HHH))
            have hs2 := HB2.out.size
            have hs3 := HS.out
            have hb3 : Below (P + 1) wr w3 := (HB2.out.mono (by omega)).trans (HB3.out (P + 1) (by omega) (by omega) (by omega) (by omega))
            have HR4 : Hid (RdAt w3 (P + 1) (.slice a m c) (2 + 3 * (j + 1))) := Lib.hid (by rw [show 2 + 3 * (j + 1) = 2 + 3 * j + 3 by omega]; exact HR3.out)
            have HA4 := Lib.hid (atR_is HR4.out)
            have HRs3 := Lib.hid (HRs.out.lt hb3 (by omega))
            have HBw3 := Lib.hid (HBw.out.trans (hb3.mono (Nat.le_succ P)))
            clear hs2 hs3 hb3 HB2 HB3 HS2 HRs HBw HS HRd HDr HO HBw2 HR3
            go_roundw
            case rel => exact ⟨j + 1, es ++ [x], v', by omega, by rw [List.length_append, hes]; rfl, rfl, by omega, HPar, HR4, HD3, HO3, HRs3, HBw3, HS3⟩
            case measure => rw [HA.out, HA4.out]; omega
  · rintro a' w' ⟨K, F, u1, u3, u4, u8, u9, u10, u11, u12, u13, u14, u15, u16, u17, u18, u19, u20, u21, u22, u23, u24, u25, u26, u27, u28, u29, u30, u31, rfl, HPar, HP⟩
    obtain ⟨⟨x, x0⟩, ⟨y, x1⟩, x2, x3⟩ := HP.out.2.1
    have r0 := HP.out.1.2.1
    go_wp2
    go_region
    all_goals go_wp2
    all_goals simp only [Exit.jump]
    all_goals (have h2 := set2_cells x0 x1 (.int .i64 0) (.slice none 0 0))
    all_goals exact bodyPost_ret_by (resGTT rfl _ rfl h2.1 h2.2) rfl ⟨.slice none 0 0, by rw [HPar.out]; rfl, by rw [HPar.out]; exact edges_nil _, (HP.out.2.2.drew.setCell (Nat.le_refl _) _).setCell (Nat.le_refl _) _⟩
/-- Parse, at the landed package. -/
theorem pparse6_any {v : Value} {l : List ByteArray} (hl : l.length ≤ 100000) (hz : ∀ x ∈ l, x.size ≤ maxLen) (w : World) (h : StrsAt w v l) :
    Calls Tryd.prog 14 #[v] w fun e w' => ∃ v', e = .returned (.tuple #[.agg #[.int .i64 (parseG l).1, v'], .int .i64 (parseG l).2.2.1, .int .i64 (parseG l).2.2.2]) ∧ EdgesAt w' v' (parseG l).2.1 ∧ Below w.heap.size w w' := by
  obtain ⟨a, c, rfl, _, g⟩ := h
  exact pparse6_some l a l.length c rfl hl hz w (Lib.hid g)
end Go.Proofs.YtlecidgfchaonaaDoor
