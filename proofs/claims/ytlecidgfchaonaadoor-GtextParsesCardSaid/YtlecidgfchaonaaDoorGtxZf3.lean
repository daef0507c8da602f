import Derived.Test.YtlecidgfchaonaaDoorMP
import Derived.Test.YtlecidgfchaonaaDoorHeld
import Derived.Laws.EntriesVeiled
set_option linter.unusedVariables false
set_option linter.unusedSimpArgs false
namespace Go.Proofs.YtlecidgfchaonaaDoor
open Go.RowKit
attribute [local go_sem ↓] Go.wp_at_zero Go.wp_at_succ
set_option maxHeartbeats 2000000 in
theorem edge_good (l : List ByteArray) (hl : l.length ≤ 1000000) (hx : ∀ x ∈ l, x.size ≤ maxLen) (R k c D N hi M : Nat) (hk : k ≤ l.length) (a : Option Addr) (v : Value) (hN : N = hi + 1) (hN2 : N ≤ 4096) (h0 : nextF l k (limF 0 hi 7) = 0) (h1 : nextF l (k + 1) (othF (nextV l k) 0 hi 7) = 0) (h2 : nextF l (k + 2) (limF 1 4294967296 2) = 0) (w : World) (hr : RdAt w R (.slice a l.length c) k) (hw : WdAt w R a l) (hd : DrAt w D N v M) (hDR : D ≠ R) (base n : Nat) (es : List Ed) (hn : es.length = n) (hnm : n ≤ 20000) (hown : w.ownsRow base 43 3 v n (flat es)) (hRv : some R ≠ v.ownBlock) (hDb : D < base) (hbw : base ≤ w.heap.size) :
    Calls Tryd.prog 33 #[.pointer (some ⟨D, 0, none⟩), nextVal R] w fun e w' => ∃ v', e = .returned (.int .i64 0) ∧ RdAt w' R (.slice a l.length c) (k + 3) ∧ DrAt w' D N v' M ∧ w'.ownsRow base 43 3 v' (n + 1) (flat (es ++ [⟨nextV l k, nextV l (k + 1), nextV l (k + 2)⟩])) ∧ base ≤ w'.heap.size ∧ Kept R D base w w' ∧ ∀ B, B ≤ w.heap.size → B ≤ R → B ≤ D → B ≤ base → Below B w w' := by
  have HN0 := Lib.hid (fun p q r W => nextl_good l hl hx R k c hk a p q r 0 hi 7 h0 W)
  have HW0 := Lib.hid (fun W => within_any 0 hi 7 W)
  have HN1 := Lib.hid (fun FB G p q r W => nexto_good l hl hx R (k + 1) c (next_lt h0) a FB G p q r (nextV l k) 0 hi 7 h1 W)
  have HN2 := Lib.hid (fun p q r W => nextl_good l hl hx R (k + 2) c (next_lt h1) a p q r 1 4294967296 2 h2 W)
  have HW2 := Lib.hid (fun W => within_any 1 4294967296 2 W)
  have b0 := next_lim_le (by decide) h0
  obtain ⟨V0, hV0⟩ : ∃ V0, nextV l k = V0 := ⟨_, rfl⟩
  rw [hV0] at b0 HN0 HN1 ⊢
  have z0 : (V0 : Int) ≤ 4096 := by omega
  have b1 := next_oth_le h1
  obtain ⟨V1, hV1⟩ : ∃ V1, nextV l (k + 1) = V1 := ⟨_, rfl⟩
  rw [hV1] at b1 HN1 ⊢
  have z1 : (V1 : Int) ≤ 4096 := by omega
  have b2 := next_lim_le (by decide) h2
  obtain ⟨V2, hV2⟩ : ∃ V2, nextV l (k + 2) = V2 := ⟨_, rfl⟩
  rw [hV2] at b2 HN2 ⊢
  have z2 : (V2 : Int) ≤ 4294967296 := by omega
  have HO := Lib.hid hown
  obtain ⟨i0, hi0, hz0, hz1, hz2⟩ := info_parts infoE
  clear hown
  have eN : ((hi : Nat) : Int) = (N : Int) - 1 := by omega
  rw [eN] at HW0
  have q1 : (N : Int) ≤ 4096 := by omega
  have q2 : (1 : Int) ≤ (N : Int) := by omega
  have q3 : IntKind.u64.wrap ((N : Int) - 1) = (N : Int) - 1 := IntWalk.u64_in _ ⟨by omega, by omega⟩
  have HR0 := Lib.hid hr
  have HW := Lib.hid hw
  have HD := Lib.hid hd
  have hne : some D ≠ some R := fun e => hDR (Option.some.inj e)
  have hRw : R < w.heap.size := World.block_lt_of_cell? w _ hr.1
  have hDw : D < w.heap.size := World.block_lt_of_cell? w _ hd.1
  obtain ⟨m, hm⟩ : ∃ m, l.length = m := ⟨_, rfl⟩
  rw [hm] at HN0 HN1 HN2 HR0 ⊢
  have HBA : Hid (Below w.heap.size w (w.alloc (.cells #[.int .u64 0] 41))) := Lib.hid ((Below.refl _ w).alloc (Nat.le_refl _) _)
  have cD := cell_on HBA.out hd.1
  unfold nextVal
  clear hr hw hd hx hN hN2 eN
  go_enter Tryd.func33, Tryd.ntmps33
  go_wp2
  refine wp_scope_jumps 0 (fun a' w' => ∃ (u0 u1 u2 u3 u4 u5 u6 u7 u9 u10 u11 u12 u13 u14 u15 u16 u17 u18 u19 u20 u21 u22 u23 u24 u25 u26 u27 u28 u29 u30 u31 u32 u33 u34 u35 u36 u37 u38 u39 u40 u41 u42 u43 u44 u45 u46 u47 u48 u49 u50 u51 u52 u53 u54 u55 u56 u57 u58 u59 u60 u61 : Value), a' = { tmps := #[u0, u1, u2, u3, u4, u5, u6, u7, .int .i64 0, u9, u10, u11, u12, u13, u14, u15, u16, u17, u18, u19, u20, u21, u22, u23, u24, u25, u26, u27, u28, u29, u30, u31, u32, u33, u34, u35, u36, u37, u38, u39, u40, u41, u42, u43, u44, u45, u46, u47, u48, u49, u50, u51, u52, u53, u54, u55, u56, u57, u58, u59, u60, u61], defers := [] } ∧ Hid (∃ v', RdAt w' R (.slice a m c) (k + 3) ∧ DrAt w' D N v' M ∧ w'.ownsRow base 43 3 v' (n + 1) (flat (es ++ [⟨V0, V1, V2⟩])) ∧ base ≤ w'.heap.size ∧ Kept R D base w w' ∧ ∀ B, B ≤ w.heap.size → B ≤ R → B ≤ D → B ≤ base → Below B w w')) (fun _ _ => 0) rfl ?_ ?_
  · go_wp2_with (first
      | (go_at_call 47; refine (HW0.out _).mono ?_; rintro e w1 ⟨p1, q1, r1, rfl, hp1, hq1, hr1, hL, hB⟩; have HL1 := Lib.hid hL; have HP1 := Lib.hid (And.intro hp1 (And.intro hq1 hr1)); have cF := cell_on hB (p := ⟨w.heap.size, 0, none⟩) (v := .int .u64 0) (by simp); have fF := frozen_on hB (p := ⟨w.heap.size, 0, none⟩) (v := .int .u64 0) (by simp) (by simp); have HB1 := Lib.hid (on_trans HBA.out hB); have HZ1 : Hid (w.heap.size < w1.heap.size) := Lib.hid (World.block_lt_of_cell? _ _ cF); clear hL hB HW0 cD hp1 hq1 hr1; unfold limV)
      | (go_at_call 31; refine (HN0.out p1 q1 r1 _ (HR0.out.on (HB1.out.alloc HB1.out.size _)) (HW.out.on (HB1.out.alloc HB1.out.size _)) (HL1.out.on ((Below.refl _ _).alloc (Nat.le_refl _) _))).mono ?_; rintro e w2 ⟨rfl, hR, hG⟩; have cF2 := far_cell hG (fun e => Nat.ne_of_gt hRw (Option.some.inj e)) (cell_on ((Below.refl _ _).alloc (Nat.le_refl _) _) cF); have fF2 := far_frozen hG (fun e => Nat.ne_of_gt hRw (Option.some.inj e)) (cell_on ((Below.refl _ _).alloc (Nat.le_refl _) _) cF) (frozen_on ((Below.refl _ _).alloc (Nat.le_refl _) _) cF fF); have HGa := Lib.hid hG; have HR2 := Lib.hid (hR.set (D := w.heap.size) (i := 0) (u := .int .u64 ((V0 : Nat))) (Nat.ne_of_gt hRw)); have HG2 := Lib.hid (g_set (p := ⟨w.heap.size, 0, none⟩) (g_then (g_below (HB1.out.alloc HB1.out.size _) (some R)) hG (fun j h => .inl h)) (.int .u64 ((V0 : Nat))) (.inl (Nat.le_refl _))); clear hR hG HN0 cF fF)
      | (go_at_call 31; have hO := oth_at (fr := V0) HL1.out HP1.out HZ1.out hRw HGa.out cF2; have hW2 := HW.out.far HG2.out; refine (HN1.out w.heap.size w1.heap.size p1 q1 r1 _ HR2.out hW2 hO).mono ?_; clear hO hW2; rintro e w3 ⟨rfl, hR, hG⟩; have HR3 := Lib.hid hR; have cF3 := far_cell hG (fun e => Nat.ne_of_gt hRw (Option.some.inj e)) (World.cell?_setCell_same _ _ (.int .u64 (V0 : Nat)) cF2); have HG3 := Lib.hid (g_on HG2.out hG); clear hR hG HN1 cF2 fF2 HR2 HGa)
      | (go_at_call 47; refine (HW2.out _).mono ?_; rintro e w4 ⟨p2, q2, r2, rfl, hp2, hq2, hr2, hL, hB⟩; have HL4 := Lib.hid hL; have cF4 := cell_on hB cF3; have HB4 := Lib.hid hB; clear hL hB HW2 hp2 hq2 hr2 cF3; unfold limV)
      | (go_at_call 31; refine (HN2.out p2 q2 r2 _ (HR3.out.on HB4.out) ((HW.out.far HG3.out).on HB4.out) HL4.out).mono ?_; rintro e w5 ⟨rfl, hR, hG⟩; have HR5 := Lib.hid hR; have cF5 := far_cell hG (fun e => Nat.ne_of_gt hRw (Option.some.inj e)) cF4; have HG5 := Lib.hid (g_on (g_in HG3.out HB4.out) hG); clear hR hG HN2 cF4 HR3))
    have HD5 := Lib.hid (HD.out.far HG5.out hne)
    have HO5 := Lib.hid (HO.out.kept HG5.out (.inr (fun e => hRv e.symm)))
    have hb5 : base ≤ w5.heap.size := Nat.le_trans hbw HG5.out.size
    have hba := (Below.refl w5.heap.size w5).alloc (Nat.le_refl _) (.cells #[.int .i64 (V0 : Int), .int .i64 (V1 : Int), .int .u64 (V2 : Int)] 43)
    have d1 := HD5.out.2.1
    have Q1 := Lib.hid (cell_on hba.drew d1)
    have Q0 := Lib.hid (frozen_on hba.drew d1 HD5.out.2.2.2.2.1)
    have Q2 := Lib.hid (cell_on hba.drew cF5)
    have HRd := Lib.hid (HR5.out.on hba.drew)
    have HDd := Lib.hid (HD5.out.on hba.drew)
    have HBd := Lib.hid hba.drew
    have HOd := Lib.hid ((HO5.out.alloc (.cells #[.int .i64 (V0 : Int), .int .i64 (V1 : Int), .int .u64 (V2 : Int)] 43)).drew)
    have HEo := Lib.hid (own_ne HO.out 0)
    have hDv := own_low HO.out hDb
    rw [Nat.add_zero] at HEo
    have e0 : IntKind.i64.wrap (V0 : Int) = V0 := IntWalk.i64_in _ ⟨by omega, by omega⟩
    have e1 : IntKind.i64.wrap (V1 : Int) = V1 := IntWalk.i64_in _ ⟨by omega, by omega⟩
    clear hba HR5 HO HW HR0 HL1 HP1 HL4 HB4 HBA
    refine region_till (fun w' => w'.cell? ⟨D, 1, none⟩ = some v ∧ w'.cell? ⟨w.heap.size, 0, none⟩ = some (.int .u64 (V0 : Int))) 17 (by kernel_rfl) ⟨d1, cF5⟩ (fun hS0 => ?_)
    refine wpTill_take (i := 0) (v := .pointer (some ⟨D, 0, none⟩)) rfl (by kernel_rfl) (by kernel_rfl) (by kernel_rfl) (by kernel_rfl) (by kernel_rfl) (fun _ _ _ h => h) (Or.inl ⟨by kernel_rfl, fun w' hS => by obtain ⟨s0, s1⟩ := hS; go_simp⟩) hS0 ?_
    simp only [Act.put, List.setIfInBounds_toArray, List.set_cons_zero, List.set_cons_succ]
    refine wpTill_take (i := 1) (v := .pointer (some ⟨D, 0, none⟩)) rfl (by kernel_rfl) (by kernel_rfl) (by kernel_rfl) (by kernel_rfl) (by kernel_rfl) (fun _ _ _ h => h) (Or.inl ⟨by kernel_rfl, fun w' hS => by obtain ⟨s0, s1⟩ := hS; go_simp⟩) hS0 ?_
    simp only [Act.put, List.setIfInBounds_toArray, List.set_cons_zero, List.set_cons_succ]
    refine wpTill_take (i := 2) (v := .pointer (some ⟨D, 0, none⟩)) rfl (by kernel_rfl) (by kernel_rfl) (by kernel_rfl) (by kernel_rfl) (by kernel_rfl) (fun _ _ _ h => h) (Or.inl ⟨by kernel_rfl, fun w' hS => by obtain ⟨s0, s1⟩ := hS; go_simp⟩) hS0 ?_
    simp only [Act.put, List.setIfInBounds_toArray, List.set_cons_zero, List.set_cons_succ]
    refine wpTill_take (i := 3) (v := .pointer (some ⟨D, 0, none⟩)) rfl (by kernel_rfl) (by kernel_rfl) (by kernel_rfl) (by kernel_rfl) (by kernel_rfl) (fun _ _ _ h => h) (Or.inl ⟨by kernel_rfl, fun w' hS => by obtain ⟨s0, s1⟩ := hS; go_simp⟩) hS0 ?_
    simp only [Act.put, List.setIfInBounds_toArray, List.set_cons_zero, List.set_cons_succ]
    refine wpTill_take (i := 4) (v := .pointer (some ⟨D, 1, none⟩)) rfl (by kernel_rfl) (by kernel_rfl) (by kernel_rfl) (by kernel_rfl) (by kernel_rfl) (fun _ _ _ h => h) (Or.inl ⟨by kernel_rfl, fun w' hS => by obtain ⟨s0, s1⟩ := hS; go_simp⟩) hS0 ?_
    simp only [Act.put, List.setIfInBounds_toArray, List.set_cons_zero, List.set_cons_succ]
    refine wpTill_take (i := 5) (v := v) rfl (by kernel_rfl) (by kernel_rfl) (by kernel_rfl) (by kernel_rfl) (by kernel_rfl) (fun _ _ _ h => h) (Or.inl ⟨by kernel_rfl, fun w' hS => by obtain ⟨s0, s1⟩ := hS; go_simp⟩) hS0 ?_
    simp only [Act.put, List.setIfInBounds_toArray, List.set_cons_zero, List.set_cons_succ]
    refine wpTill_take (i := 6) (v := .int .u64 (V0 : Int)) rfl (by kernel_rfl) (by kernel_rfl) (by kernel_rfl) (by kernel_rfl) (by kernel_rfl) (fun _ _ _ h => h) (Or.inl ⟨by kernel_rfl, fun w' hS => by obtain ⟨s0, s1⟩ := hS; go_simp⟩) hS0 ?_
    simp only [Act.put, List.setIfInBounds_toArray, List.set_cons_zero, List.set_cons_succ]
    refine wpTill_take (i := 7) (v := .int .i64 (V0 : Int)) rfl (by kernel_rfl) (by kernel_rfl) (by kernel_rfl) (by kernel_rfl) (by kernel_rfl) (fun _ _ _ h => h) (Or.inl ⟨by kernel_rfl, fun w' hS => by obtain ⟨s0, s1⟩ := hS; go_simp⟩) hS0 ?_
    simp only [Act.put, List.setIfInBounds_toArray, List.set_cons_zero, List.set_cons_succ]
    refine wpTill_take (i := 8) (v := .int .u64 (V1 : Int)) rfl (by kernel_rfl) (by kernel_rfl) (by kernel_rfl) (by kernel_rfl) (by kernel_rfl) (fun _ _ _ h => h) (Or.inl ⟨by kernel_rfl, fun w' hS => by obtain ⟨s0, s1⟩ := hS; go_simp⟩) hS0 ?_
    simp only [Act.put, List.setIfInBounds_toArray, List.set_cons_zero, List.set_cons_succ]
    refine wpTill_take (i := 9) (v := .int .i64 (V1 : Int)) rfl (by kernel_rfl) (by kernel_rfl) (by kernel_rfl) (by kernel_rfl) (by kernel_rfl) (fun _ _ _ h => h) (Or.inl ⟨by kernel_rfl, fun w' hS => by obtain ⟨s0, s1⟩ := hS; go_simp⟩) hS0 ?_
    simp only [Act.put, List.setIfInBounds_toArray, List.set_cons_zero, List.set_cons_succ]
    refine wpTill_take (i := 10) (v := .int .u64 (V2 : Int)) rfl (by kernel_rfl) (by kernel_rfl) (by kernel_rfl) (by kernel_rfl) (by kernel_rfl) (fun _ _ _ h => h) (Or.inl ⟨by kernel_rfl, fun w' hS => by obtain ⟨s0, s1⟩ := hS; go_simp⟩) hS0 ?_
    simp only [Act.put, List.setIfInBounds_toArray, List.set_cons_zero, List.set_cons_succ]
    refine wpTill_take (i := 11) (v := .agg #[.int .i64 (V0 : Int), .int .i64 (V1 : Int), .int .u64 (V2 : Int)]) rfl (by kernel_rfl) (by kernel_rfl) (by kernel_rfl) (by kernel_rfl) (by kernel_rfl) (fun _ _ _ h => h) (Or.inl ⟨by kernel_rfl, fun w' hS => by obtain ⟨s0, s1⟩ := hS; go_simp⟩) hS0 ?_
    simp only [Act.put, List.setIfInBounds_toArray, List.set_cons_zero, List.set_cons_succ]
    refine wpTill_one (i := 12) (by kernel_rfl) rfl (fun K hK => ?_)
    have HK := Lib.hid hK.out
    clear hK
    go_simp
    refine HK.out _ _ (fun _ => ⟨Q1.out, Q2.out⟩) (fun hS1 => ?_)
    clear HK
    refine wpTill_one (i := 13) (by kernel_rfl) rfl (fun K hK => ?_)
    have HK := Lib.hid hK.out
    clear hK
    refine step_append_lies _ (by rfl) _ _ _ (by rfl) base 43 i0 _ 3 24 Tryd.underlying22 hi0 hz0 hz1 hz2 rfl (by omega) v n _ (by rfl) HOd.out ⟨w5.heap.size, 0, none⟩ 1 1 [.int .i64 (V0 : Int), .int .i64 (V1 : Int), .int .u64 (V2 : Int)] (by rfl) (by rfl) (World.news_of_block (cs := #[.int .i64 (V0 : Int), .int .i64 (V1 : Int), .int .u64 (V2 : Int)]) (t := 43) (fr := (0, 0)) (heap_alloc_new w5 _)) (by simp [Value.oneCell']) (by omega) (by unfold maxLen; omega) (by omega) (by simp; omega) (w5.heap.size + 1) (by simp) ?_
    intro gg cap w7 hown1 hgrow hat hlt2
    have q1 := far_cell hgrow hDv Q1.out
    have q2 := far_frozen hgrow hDv Q1.out Q0.out
    refine HK.out _ _ (fun _ => ⟨q1, far_cell hgrow HEo.out Q2.out⟩) (fun hS2 => ?_)
    clear HK
    refine wpTill_take (i := 14) (v := .pointer (some ⟨D, 0, none⟩)) rfl (by kernel_rfl) (by kernel_rfl) (by kernel_rfl) (by kernel_rfl) (by kernel_rfl) (fun _ _ _ h => h) (Or.inl ⟨by kernel_rfl, fun w' hS => by obtain ⟨s0, s1⟩ := hS; go_simp⟩) (hS2 (by decide)) ?_
    simp only [Act.put, List.setIfInBounds_toArray, List.set_cons_zero, List.set_cons_succ]
    refine wpTill_take (i := 15) (v := .pointer (some ⟨D, 0, none⟩)) rfl (by kernel_rfl) (by kernel_rfl) (by kernel_rfl) (by kernel_rfl) (by kernel_rfl) (fun _ _ _ h => h) (Or.inl ⟨by kernel_rfl, fun w' hS => by obtain ⟨s0, s1⟩ := hS; go_simp⟩) (hS2 (by decide)) ?_
    simp only [Act.put, List.setIfInBounds_toArray, List.set_cons_zero, List.set_cons_succ]
    refine wpTill_take (i := 16) (v := .pointer (some ⟨D, 1, none⟩)) rfl (by kernel_rfl) (by kernel_rfl) (by kernel_rfl) (by kernel_rfl) (by kernel_rfl) (fun _ _ _ h => h) (Or.inl ⟨by kernel_rfl, fun w' hS => by obtain ⟨s0, s1⟩ := hS; go_simp⟩) (hS2 (by decide)) ?_
    simp only [Act.put, List.setIfInBounds_toArray, List.set_cons_zero, List.set_cons_succ]
    refine wpTill_one (i := 17) (by kernel_rfl) rfl (fun K hK => ?_)
    have HK := Lib.hid hK.out
    clear hK
    go_simp
    refine HK.out _ _ (fun h => absurd rfl h) (fun _ => ?_)
    clear HK
    refine wpTill_done (by kernel_rfl) ?_ _
    go_wp2
    go_step3
    go_wp2
    simp only [Exit.jump]
    go_ret
    refine ⟨_, rfl, (HRd.out.far hgrow hRv).set hDR, (HDd.out.far hgrow hDv).slice1 _, ?_, ?_, ?_, fun B h1 h2 h3 h4 => ?_⟩
    · rw [flat_snoc]; exact owns_set hown1 _ hDb
    · have := hgrow.size; simp at this ⊢; omega
    · exact ((((kept_g HG5.out).less hbw).then hb5 (g_below HBd.out none) (fun j h => by cases h)).then (Nat.le_trans hb5 HBd.out.size) hgrow (fun j h => (HOd.out.lt j h).1)).set _
    · exact (below_growE ((g_low HG5.out h1 h2).trans (HBd.out.mono (Nat.le_trans h1 HG5.out.size))) h4 (by have := HG5.out.size; simp; omega) HOd.out hgrow).setCell h3 _
  · rintro a' w' ⟨u0, u1, u2, u3, u4, u5, u6, u7, u9, u10, u11, u12, u13, u14, u15, u16, u17, u18, u19, u20, u21, u22, u23, u24, u25, u26, u27, u28, u29, u30, u31, u32, u33, u34, u35, u36, u37, u38, u39, u40, u41, u42, u43, u44, u45, u46, u47, u48, u49, u50, u51, u52, u53, u54, u55, u56, u57, u58, u59, u60, u61, rfl, hP⟩
    go_wp2
    simp only [Exit.jump]
    go_ret
    obtain ⟨v', h1, h2, h3, h4, h5, h6⟩ := hP.out
    exact ⟨v', rfl, h1, h2, h3, h4, h5, h6⟩
end Go.Proofs.YtlecidgfchaonaaDoor
