import Derived.Test.YtlecidgfchaonaaDoorMP
import Derived.Test.YtlecidgfchaonaaDoorHeld
import Derived.Laws.EntriesVeiled
set_option linter.unusedVariables false
set_option linter.unusedSimpArgs false
namespace Go.Proofs.YtlecidgfchaonaaDoor
open Go.RowKit
attribute [local go_sem ↓] Go.wp_at_zero Go.wp_at_succ
set_option maxHeartbeats 2000000 in
theorem edge_bad2 (l : List ByteArray) (hl : l.length ≤ 1000000) (hx : ∀ x ∈ l, x.size ≤ maxLen) (R k c D N hi M : Nat) (hk : k ≤ l.length) (a : Option Addr) (v : Value) (hN : N = hi + 1) (hN2 : N ≤ 4096) (F0 : Int) (h0 : nextF l k (limF 0 hi 7) = 0) (h1 : nextF l (k + 1) (othF (nextV l k) 0 hi 7) = 0) (h2 : nextF l (k + 2) (limF 1 4294967296 2) = F0) (hF0 : F0 ≠ 0) (w : World) (hr : RdAt w R (.slice a l.length c) k) (hw : WdAt w R a l) (hd : DrAt w D N v M) (hDR : D ≠ R) :
    Calls Tryd.prog 33 #[.pointer (some ⟨D, 0, none⟩), nextVal R] w fun e w' => e = .returned (.int .i64 F0) ∧ RdAt w' R (.slice a l.length c) (k + 2) ∧ DrAt w' D N v M ∧ w.grownBy w' (some R) := by
  have HN0 := Lib.hid (fun p q r W => nextl_good l hl hx R k c hk a p q r 0 hi 7 h0 W)
  have HW0 := Lib.hid (fun W => within_any 0 hi 7 W)
  have HN1 := Lib.hid (fun FB G p q r W => nexto_good l hl hx R (k + 1) c (next_lt h0) a FB G p q r (nextV l k) 0 hi 7 h1 W)
  have HN2 := Lib.hid (fun p q r W => nextl_bad l hl hx R (k + 2) c (next_lt h1) a p q r 1 4294967296 2 F0 h2 hF0 W)
  have HW2 := Lib.hid (fun W => within_any 1 4294967296 2 W)
  have b0 := next_lim_le (by decide) h0
  obtain ⟨V0, hV0⟩ : ∃ V0, nextV l k = V0 := ⟨_, rfl⟩
  rw [hV0] at b0 HN0 HN1
  have z0 : (V0 : Int) ≤ 4096 := by omega
  have b1 := next_oth_le h1
  obtain ⟨V1, hV1⟩ : ∃ V1, nextV l (k + 1) = V1 := ⟨_, rfl⟩
  rw [hV1] at b1 HN1
  have z1 : (V1 : Int) ≤ 4096 := by omega
  have hb0 : (F0 != 0) = true := by rw [bne_iff_ne]; exact hF0
  clear hF0
  have eN : ((hi : Nat) : Int) = (N : Int) - 1 := by omega
  rw [eN] at HW0
  have q1 : (N : Int) ≤ 4096 := by omega
  have q2 : (1 : Int) ≤ (N : Int) := by omega
  have q3 : IntKind.u64.wrap ((N : Int) - 1) = (N : Int) - 1 := IntWalk.u64_in _ ⟨by omega, by omega⟩
  have HR0 := Lib.hid hr
  have HW := Lib.hid hw
  have HD := Lib.hid hd
  have hne : some D ≠ some R := fun e => hDR (Option.some.inj e)
  have hRw : R < w.heap.size := World.block_lt_of_cell? w _ hr.1
  have hDw : D < w.heap.size := World.block_lt_of_cell? w _ hd.1
  obtain ⟨m, hm⟩ : ∃ m, l.length = m := ⟨_, rfl⟩
  rw [hm] at HN0 HN1 HN2 HR0 ⊢
  have HBA : Hid (Below w.heap.size w (w.alloc (.cells #[.int .u64 0] 41))) := Lib.hid ((Below.refl _ w).alloc (Nat.le_refl _) _)
  have cD := cell_on HBA.out hd.1
  unfold nextVal
  clear hr hw hd hx hN hN2 eN
  go_enter Tryd.func33, Tryd.ntmps33
  go_wp2
  refine wp_scope_jumps 0 (fun a' w' => ∃ (u0 u1 u2 u3 u4 u5 u6 u7 u9 u10 u11 u12 u13 u14 u15 u16 u17 u18 u19 u20 u21 u22 u23 u24 u25 u26 u27 u28 u29 u30 u31 u32 u33 u34 u35 u36 u37 u38 u39 u40 u41 u42 u43 u44 u45 u46 u47 u48 u49 u50 u51 u52 u53 u54 u55 u56 u57 u58 u59 u60 u61 : Value), a' = { tmps := #[u0, u1, u2, u3, u4, u5, u6, u7, .int .i64 F0, u9, u10, u11, u12, u13, u14, u15, u16, u17, u18, u19, u20, u21, u22, u23, u24, u25, u26, u27, u28, u29, u30, u31, u32, u33, u34, u35, u36, u37, u38, u39, u40, u41, u42, u43, u44, u45, u46, u47, u48, u49, u50, u51, u52, u53, u54, u55, u56, u57, u58, u59, u60, u61], defers := [] } ∧ Hid (RdAt w' R (.slice a m c) (k + 2) ∧ DrAt w' D N v M ∧ w.grownBy w' (some R))) (fun _ _ => 0) rfl ?_ ?_
  · go_wp2_with (first
      | (go_at_call 47; refine (HW0.out _).mono ?_; rintro e w1 ⟨p1, q1, r1, rfl, hp1, hq1, hr1, hL, hB⟩; have HL1 := Lib.hid hL; have HP1 := Lib.hid (And.intro hp1 (And.intro hq1 hr1)); have cF := cell_on hB (p := ⟨w.heap.size, 0, none⟩) (v := .int .u64 0) (by simp); have fF := frozen_on hB (p := ⟨w.heap.size, 0, none⟩) (v := .int .u64 0) (by simp) (by simp); have HB1 := Lib.hid (on_trans HBA.out hB); have HZ1 : Hid (w.heap.size < w1.heap.size) := Lib.hid (World.block_lt_of_cell? _ _ cF); clear hL hB HW0 cD hp1 hq1 hr1; unfold limV)
      | (go_at_call 31; refine (HN0.out p1 q1 r1 _ (HR0.out.on (HB1.out.alloc HB1.out.size _)) (HW.out.on (HB1.out.alloc HB1.out.size _)) (HL1.out.on ((Below.refl _ _).alloc (Nat.le_refl _) _))).mono ?_; rintro e w2 ⟨rfl, hR, hG⟩; have cF2 := far_cell hG (fun e => Nat.ne_of_gt hRw (Option.some.inj e)) (cell_on ((Below.refl _ _).alloc (Nat.le_refl _) _) cF); have fF2 := far_frozen hG (fun e => Nat.ne_of_gt hRw (Option.some.inj e)) (cell_on ((Below.refl _ _).alloc (Nat.le_refl _) _) cF) (frozen_on ((Below.refl _ _).alloc (Nat.le_refl _) _) cF fF); have HGa := Lib.hid hG; have HR2 := Lib.hid (hR.set (D := w.heap.size) (i := 0) (u := .int .u64 ((V0 : Nat))) (Nat.ne_of_gt hRw)); have HG2 := Lib.hid (g_set (p := ⟨w.heap.size, 0, none⟩) (g_then (g_below (HB1.out.alloc HB1.out.size _) (some R)) hG (fun j h => .inl h)) (.int .u64 ((V0 : Nat))) (.inl (Nat.le_refl _))); clear hR hG HN0 cF fF)
      | (go_at_call 31; have hO := oth_at (fr := V0) HL1.out HP1.out HZ1.out hRw HGa.out cF2; have hW2 := HW.out.far HG2.out; refine (HN1.out w.heap.size w1.heap.size p1 q1 r1 _ HR2.out hW2 hO).mono ?_; clear hO hW2; rintro e w3 ⟨rfl, hR, hG⟩; have HR3 := Lib.hid hR; have cF3 := far_cell hG (fun e => Nat.ne_of_gt hRw (Option.some.inj e)) (World.cell?_setCell_same _ _ (.int .u64 (V0 : Nat)) cF2); have HG3 := Lib.hid (g_on HG2.out hG); clear hR hG HN1 cF2 fF2 HR2 HGa)
      | (go_at_call 47; refine (HW2.out _).mono ?_; rintro e w4 ⟨p2, q2, r2, rfl, hp2, hq2, hr2, hL, hB⟩; have HL4 := Lib.hid hL; have cF4 := cell_on hB cF3; have HB4 := Lib.hid hB; clear hL hB HW2 hp2 hq2 hr2 cF3; unfold limV)
      | (go_at_call 31; refine (HN2.out p2 q2 r2 _ (HR3.out.on HB4.out) ((HW.out.far HG3.out).on HB4.out) HL4.out).mono ?_; rintro e w5 ⟨rfl, hR, hG⟩; have HR5 := Lib.hid hR; have cF5 := far_cell hG (fun e => Nat.ne_of_gt hRw (Option.some.inj e)) cF4; have HG5 := Lib.hid (g_on (g_in HG3.out HB4.out) hG); clear hR hG HN2 cF4 HR3))
    go_step3
    exact ⟨rfl, _, _, _, _, _, _, _, _, _, _, _, _, _, _, _, _, _, _, _, _, _, _, _, _, _, _, _, _, _, _, _, _, _, _, _, _, _, _, _, _, _, _, _, _, _, _, _, _, _, _, _, _, _, _, _, _, _, _, _, _, _, rfl, Lib.hid ⟨HR5.out, HD.out.far HG5.out hne, HG5.out⟩⟩
  · rintro a' w' ⟨u0, u1, u2, u3, u4, u5, u6, u7, u9, u10, u11, u12, u13, u14, u15, u16, u17, u18, u19, u20, u21, u22, u23, u24, u25, u26, u27, u28, u29, u30, u31, u32, u33, u34, u35, u36, u37, u38, u39, u40, u41, u42, u43, u44, u45, u46, u47, u48, u49, u50, u51, u52, u53, u54, u55, u56, u57, u58, u59, u60, u61, rfl, hP⟩
    go_wp2
    simp only [Exit.jump]
    go_ret
    exact ⟨rfl, hP.out⟩
end Go.Proofs.YtlecidgfchaonaaDoor
