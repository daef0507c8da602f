import Derived.Test.YtcgijabnknemiaaGraP
import Derived.Test.YtcgijabnknemiaaHeld
set_option linter.unusedVariables false
set_option linter.unusedSimpArgs false
namespace Go.Proofs.Ytcgijabnknemiaa
open Go.RowKit
attribute [local go_sem ↓] Go.wp_at_zero Go.wp_at_succ
def L2 (w0 : World) (B : Nat) (n n2 : Int) (v v2 : Value) (es es2 : List Ed) (w : World) : Prop := w.cell? ⟨B, 0, none⟩ = some (.int .i64 n) ∧ w.cell? ⟨B, 1, none⟩ = some v ∧ w.cell? ⟨B + 1, 0, none⟩ = some (.int .i64 n2) ∧ w.cell? ⟨B + 1, 1, none⟩ = some v2 ∧ Hid (EdgesAt w v es) ∧ Hid (EdgesAt w v2 es2) ∧ Hid (Below w0.heap.size w0 w)
theorem L2.on {w0 W w1 : World} {B : Nat} {n n2 : Int} {v v2 : Value} {es es2 : List Ed} (hb : Below W.heap.size W w1) (h : L2 w0 B n n2 v v2 es es2 W) : L2 w0 B n n2 v v2 es es2 w1 :=
  ⟨cell_on hb h.1, cell_on hb h.2.1, cell_on hb h.2.2.1, cell_on hb h.2.2.2.1, Lib.hid (h.2.2.2.2.1.out.on hb), Lib.hid (h.2.2.2.2.2.1.out.on hb), Lib.hid (on_trans h.2.2.2.2.2.2.out hb)⟩
set_option maxHeartbeats 8000000 in
theorem looks_pp (G : GSpec) (n n2 i j : Int) (es es2 : List Ed) (a a2 : Option Addr) (m c m2 c2 : Nat) (hm : es.length = m) (hm2 : es2.length = m2) (hl : lightB n m = true) (hl2 : lightB n2 m2 = true) (hi : 0 ≤ i) (hj : 0 ≤ j) (w : World) (hE : EdgesAt w (.slice a m c) es) (hE2 : EdgesAt w (.slice a2 m2 c2) es2) :
    Calls Try.prog 3 #[.agg #[.int .i64 n, .slice a m c], .agg #[.int .i64 n2, .slice a2 m2 c2], .int .i64 i, .int .i64 j] w fun e w' => e = .returned (.bool true) ∧ Below w.heap.size w w' := by
  have hm3 : m ≤ 300 := by unfold lightB at hl; simp at hl; exact hl.2
  have HL := Lib.hid (fun W => light_any n a m c W)
  rw [hl] at HL
  have HLb := Lib.hid (fun W => light_any n2 a2 m2 c2 W)
  rw [hl2] at HLb
  have HA := Lib.hid (fun W => galive_any G W)
  have HR1 := Lib.hid (fun W h => G.right n (.slice a m c) es W h)
  have HR2 := Lib.hid (fun W (h : EdgesAt W (.slice a m c) es) => rright_any n W h)
  have HN := Lib.hid (fun W => G.node n (.slice a m c) i W)
  have HE := Lib.hid (fun W => G.edge n a m c j W)
  have HS1 := Lib.hid (fun W h1 h2 => G.same n n2 (.slice a m c) (.slice a2 m2 c2) es es2 W (by omega) h1 h2)
  have HS2 := Lib.hid (fun W (h1 : EdgesAt W (.slice a m c) es) (h2 : EdgesAt W (.slice a2 m2 c2) es2) => gsame_any n n2 (by omega) W h1 h2)
  have HC := Lib.hid (fun W h => G.clone n (.slice a m c) es W (by omega) h)
  have HS3 := Lib.hid (fun W v (h1 : EdgesAt W v es) (h2 : EdgesAt W (.slice a m c) es) => gsame_any n n (by omega) W h1 h2)
  rw [decide_eq_true ⟨rfl, rfl⟩] at HS3
  rw [show nodeB n i = decide (i < n) from by unfold nodeB; simp [hi] <;> omega] at HN
  rw [show nodeB (m : Int) j = decide (j < (m : Int)) from by unfold nodeB; simp [hj] <;> omega] at HE
  generalize rightF n es = RF at HR1 HR2
  generalize decide (n = n2 ∧ es = es2) = SB at HS1 HS2
  have hB0 := ((Below.refl w.heap.size w).alloc (Nat.le_refl _) (.cells #[.int .i64 n, .slice a m c] 24)).alloc (by simp) (.cells #[.int .i64 n2, .slice a2 m2 c2] 24)
  have HLS : Hid (L2 w w.heap.size n n2 (.slice a m c) (.slice a2 m2 c2) es es2 ((w.alloc (.cells #[.int .i64 n, .slice a m c] 24)).alloc (.cells #[.int .i64 n2, .slice a2 m2 c2] 24))) := Lib.hid ⟨by simp, by simp, by simp, by simp, Lib.hid (hE.on hB0), Lib.hid (hE2.on hB0), Lib.hid hB0⟩
  clear hB0 hE hE2 hm hm2
  go_enter Try.func3, Try.ntmps3
  go_wp2_with (first
    | (go_at_call 7; refine (HL.out _).mono ?_; rintro e w1 ⟨rfl, hB⟩; have HLS := Lib.hid (HLS.out.on hB); have b0 := HLS.out.1; have b1 := HLS.out.2.1; have b2 := HLS.out.2.2.1; have b3 := HLS.out.2.2.2.1; clear hB HL)
    | (go_at_call 7; refine (HLb.out _).mono ?_; rintro e w2 ⟨rfl, hB⟩; have HLS := Lib.hid (HLS.out.on hB); clear b0 b1 b2 b3; clear hB HLb))
  have HL2 := HLS.out
  clear HLS
  refine region_till (fun w' => w'.cell? ⟨w.heap.size, 0, none⟩ = some (.int .i64 n) ∧ w'.cell? ⟨w.heap.size, 1, none⟩ = some (.slice a m c) ∧ w'.cell? ⟨w.heap.size + 1, 0, none⟩ = some (.int .i64 n2) ∧ w'.cell? ⟨w.heap.size + 1, 1, none⟩ = some (.slice a2 m2 c2) ∧ Hid (EdgesAt w' (.slice a m c) es) ∧ Hid (EdgesAt w' (.slice a2 m2 c2) es2) ∧ Hid (Below w.heap.size w w')) 52 (by kernel_rfl) (L2.on (Below.refl _ _).drew HL2) (fun hS0 => ?_)
  refine wpTill_take (i := 0) (v := .agg #[.int .i64 n, .slice a m c]) rfl (by kernel_rfl) (by kernel_rfl) (by kernel_rfl) (by kernel_rfl) (by kernel_rfl) (fun _ _ _ h => h) (Or.inl ⟨by kernel_rfl, fun w' hS => by obtain ⟨s0, s1, s2, s3, s4, s5, s6⟩ := hS; go_simp⟩) hS0 ?_
  simp only [Act.put, List.setIfInBounds_toArray, List.set_cons_zero, List.set_cons_succ]
  refine wpTill_take (i := 2) (v := .agg #[.int .i64 n, .slice a m c]) rfl (by kernel_rfl) (by kernel_rfl) (by kernel_rfl) (by kernel_rfl) (by kernel_rfl) (fun _ _ _ h => h) (Or.inl ⟨by kernel_rfl, fun w' hS => by obtain ⟨s0, s1, s2, s3, s4, s5, s6⟩ := hS; go_simp⟩) hS0 ?_
  simp only [Act.put, List.setIfInBounds_toArray, List.set_cons_zero, List.set_cons_succ]
  refine wpTill_one (i := 1) (by kernel_rfl) rfl (fun K hK => ?_)
  have HK := Lib.hid hK.out
  clear hK
  go_simp
  refine (HR1.out _ hS0.2.2.2.2.1.out).mono ?_
  rintro e wk1 ⟨rfl, hB⟩
  have HX := Lib.hid (L2.on hB hS0)
  clear hB
  refine HK.out _ _ (fun _ => HX.out) (fun hS1 => ?_)
  clear HK HX
  refine wpTill_one (i := 3) (by kernel_rfl) rfl (fun K hK => ?_)
  have HK := Lib.hid hK.out
  clear hK
  go_simp
  refine (HR2.out _ (hS1 (by decide)).2.2.2.2.1.out).mono ?_
  rintro e wk2 ⟨rfl, hB⟩
  have HX := Lib.hid (L2.on hB (hS1 (by decide)))
  clear hB
  refine HK.out _ _ (fun _ => HX.out) (fun hS2 => ?_)
  clear HK HX
  refine wpTill_take (i := 4) (v := .bool true) rfl (by kernel_rfl) (by kernel_rfl) (by kernel_rfl) (by kernel_rfl) (by kernel_rfl) (fun _ _ _ h => h) (Or.inl ⟨by kernel_rfl, fun w' hS => by obtain ⟨s0, s1, s2, s3, s4, s5, s6⟩ := hS; go_simp⟩) (hS2 (by decide)) ?_
  simp only [Act.put, List.setIfInBounds_toArray, List.set_cons_zero, List.set_cons_succ]
  refine wpTill_take (i := 5) (v := .bool true) rfl (by kernel_rfl) (by kernel_rfl) (by kernel_rfl) (by kernel_rfl) (by kernel_rfl) (fun _ _ _ h => h) (Or.inl ⟨by kernel_rfl, fun w' hS => by obtain ⟨s0, s1, s2, s3, s4, s5, s6⟩ := hS; go_simp⟩) (hS2 (by decide)) ?_
  simp only [Act.put, List.setIfInBounds_toArray, List.set_cons_zero, List.set_cons_succ]
  refine wpTill_take (i := 6) (v := .agg #[.int .i64 n, .slice a m c]) rfl (by kernel_rfl) (by kernel_rfl) (by kernel_rfl) (by kernel_rfl) (by kernel_rfl) (fun _ _ _ h => h) (Or.inl ⟨by kernel_rfl, fun w' hS => by obtain ⟨s0, s1, s2, s3, s4, s5, s6⟩ := hS; go_simp⟩) (hS2 (by decide)) ?_
  simp only [Act.put, List.setIfInBounds_toArray, List.set_cons_zero, List.set_cons_succ]
  refine wpTill_take (i := 7) (v := .int .i64 i) rfl (by kernel_rfl) (by kernel_rfl) (by kernel_rfl) (by kernel_rfl) (by kernel_rfl) (fun _ _ _ h => h) (Or.inl ⟨by kernel_rfl, fun w' hS => by obtain ⟨s0, s1, s2, s3, s4, s5, s6⟩ := hS; go_simp⟩) (hS2 (by decide)) ?_
  simp only [Act.put, List.setIfInBounds_toArray, List.set_cons_zero, List.set_cons_succ]
  refine wpTill_take (i := 9) (v := .int .i64 i) rfl (by kernel_rfl) (by kernel_rfl) (by kernel_rfl) (by kernel_rfl) (by kernel_rfl) (fun _ _ _ h => h) (Or.inl ⟨by kernel_rfl, fun w' hS => by obtain ⟨s0, s1, s2, s3, s4, s5, s6⟩ := hS; go_simp⟩) (hS2 (by decide)) ?_
  simp only [Act.put, List.setIfInBounds_toArray, List.set_cons_zero, List.set_cons_succ]
  refine wpTill_take (i := 10) (v := .bool true) rfl (by kernel_rfl) (by kernel_rfl) (by kernel_rfl) (by kernel_rfl) (by kernel_rfl) (fun _ _ _ h => h) (Or.inl ⟨by kernel_rfl, fun w' hS => by obtain ⟨s0, s1, s2, s3, s4, s5, s6⟩ := hS; go_simp⟩) (hS2 (by decide)) ?_
  simp only [Act.put, List.setIfInBounds_toArray, List.set_cons_zero, List.set_cons_succ]
  refine wpTill_one (i := 8) (by kernel_rfl) rfl (fun K hK => ?_)
  have HK := Lib.hid hK.out
  clear hK
  go_simp
  refine (HN.out _).mono ?_
  rintro e wk3 ⟨rfl, hB⟩
  have HX := Lib.hid (L2.on hB (hS2 (by decide)))
  clear hB
  refine HK.out _ _ (fun _ => HX.out) (fun hS3 => ?_)
  clear HK HX
  refine wpTill_take (i := 11) (v := .bool true) rfl (by kernel_rfl) (by kernel_rfl) (by kernel_rfl) (by kernel_rfl) (by kernel_rfl) (fun _ _ _ h => h) (Or.inl ⟨by kernel_rfl, fun w' hS => by obtain ⟨s0, s1, s2, s3, s4, s5, s6⟩ := hS; go_simp⟩) (hS3 (by decide)) ?_
  simp only [Act.put, List.setIfInBounds_toArray, List.set_cons_zero, List.set_cons_succ]
  refine wpTill_take (i := 12) (v := .int .i64 i) rfl (by kernel_rfl) (by kernel_rfl) (by kernel_rfl) (by kernel_rfl) (by kernel_rfl) (fun _ _ _ h => h) (Or.inl ⟨by kernel_rfl, fun w' hS => by obtain ⟨s0, s1, s2, s3, s4, s5, s6⟩ := hS; go_simp⟩) (hS3 (by decide)) ?_
  simp only [Act.put, List.setIfInBounds_toArray, List.set_cons_zero, List.set_cons_succ]
  refine wpTill_take (i := 13) (v := .pointer (some ⟨w.heap.size, 0, none⟩)) rfl (by kernel_rfl) (by kernel_rfl) (by kernel_rfl) (by kernel_rfl) (by kernel_rfl) (fun _ _ _ h => h) (Or.inl ⟨by kernel_rfl, fun w' hS => by obtain ⟨s0, s1, s2, s3, s4, s5, s6⟩ := hS; go_simp⟩) (hS3 (by decide)) ?_
  simp only [Act.put, List.setIfInBounds_toArray, List.set_cons_zero, List.set_cons_succ]
  refine wpTill_take (i := 14) (v := .int .i64 n) rfl (by kernel_rfl) (by kernel_rfl) (by kernel_rfl) (by kernel_rfl) (by kernel_rfl) (fun _ _ _ h => h) (Or.inl ⟨by kernel_rfl, fun w' hS => by obtain ⟨s0, s1, s2, s3, s4, s5, s6⟩ := hS; go_simp⟩) (hS3 (by decide)) ?_
  simp only [Act.put, List.setIfInBounds_toArray, List.set_cons_zero, List.set_cons_succ]
  refine wpTill_take (i := 15) (v := .bool (decide (i < n))) rfl (by kernel_rfl) (by kernel_rfl) (by kernel_rfl) (by kernel_rfl) (by kernel_rfl) (fun _ _ _ h => h) (Or.inl ⟨by kernel_rfl, fun w' hS => by obtain ⟨s0, s1, s2, s3, s4, s5, s6⟩ := hS; go_simp⟩) (hS3 (by decide)) ?_
  simp only [Act.put, List.setIfInBounds_toArray, List.set_cons_zero, List.set_cons_succ]
  refine wpTill_take (i := 16) (v := .bool (decide (i < n))) rfl (by kernel_rfl) (by kernel_rfl) (by kernel_rfl) (by kernel_rfl) (by kernel_rfl) (fun _ _ _ h => h) (Or.inl ⟨by kernel_rfl, fun w' hS => by obtain ⟨s0, s1, s2, s3, s4, s5, s6⟩ := hS; go_simp⟩) (hS3 (by decide)) ?_
  simp only [Act.put, List.setIfInBounds_toArray, List.set_cons_zero, List.set_cons_succ]
  refine wpTill_take (i := 17) (v := .bool true) rfl (by kernel_rfl) (by kernel_rfl) (by kernel_rfl) (by kernel_rfl) (by kernel_rfl) (fun _ _ _ h => h) (Or.inl ⟨by kernel_rfl, fun w' hS => by obtain ⟨s0, s1, s2, s3, s4, s5, s6⟩ := hS; go_simp⟩) (hS3 (by decide)) ?_
  simp only [Act.put, List.setIfInBounds_toArray, List.set_cons_zero, List.set_cons_succ]
  refine wpTill_take (i := 18) (v := .bool true) rfl (by kernel_rfl) (by kernel_rfl) (by kernel_rfl) (by kernel_rfl) (by kernel_rfl) (fun _ _ _ h => h) (Or.inl ⟨by kernel_rfl, fun w' hS => by obtain ⟨s0, s1, s2, s3, s4, s5, s6⟩ := hS; go_simp⟩) (hS3 (by decide)) ?_
  simp only [Act.put, List.setIfInBounds_toArray, List.set_cons_zero, List.set_cons_succ]
  refine wpTill_take (i := 19) (v := .bool true) rfl (by kernel_rfl) (by kernel_rfl) (by kernel_rfl) (by kernel_rfl) (by kernel_rfl) (fun _ _ _ h => h) (Or.inl ⟨by kernel_rfl, fun w' hS => by obtain ⟨s0, s1, s2, s3, s4, s5, s6⟩ := hS; go_simp⟩) (hS3 (by decide)) ?_
  simp only [Act.put, List.setIfInBounds_toArray, List.set_cons_zero, List.set_cons_succ]
  refine wpTill_take (i := 20) (v := .agg #[.int .i64 n, .slice a m c]) rfl (by kernel_rfl) (by kernel_rfl) (by kernel_rfl) (by kernel_rfl) (by kernel_rfl) (fun _ _ _ h => h) (Or.inl ⟨by kernel_rfl, fun w' hS => by obtain ⟨s0, s1, s2, s3, s4, s5, s6⟩ := hS; go_simp⟩) (hS3 (by decide)) ?_
  simp only [Act.put, List.setIfInBounds_toArray, List.set_cons_zero, List.set_cons_succ]
  refine wpTill_take (i := 21) (v := .int .i64 j) rfl (by kernel_rfl) (by kernel_rfl) (by kernel_rfl) (by kernel_rfl) (by kernel_rfl) (fun _ _ _ h => h) (Or.inl ⟨by kernel_rfl, fun w' hS => by obtain ⟨s0, s1, s2, s3, s4, s5, s6⟩ := hS; go_simp⟩) (hS3 (by decide)) ?_
  simp only [Act.put, List.setIfInBounds_toArray, List.set_cons_zero, List.set_cons_succ]
  refine wpTill_take (i := 23) (v := .int .i64 j) rfl (by kernel_rfl) (by kernel_rfl) (by kernel_rfl) (by kernel_rfl) (by kernel_rfl) (fun _ _ _ h => h) (Or.inl ⟨by kernel_rfl, fun w' hS => by obtain ⟨s0, s1, s2, s3, s4, s5, s6⟩ := hS; go_simp⟩) (hS3 (by decide)) ?_
  simp only [Act.put, List.setIfInBounds_toArray, List.set_cons_zero, List.set_cons_succ]
  refine wpTill_take (i := 24) (v := .bool true) rfl (by kernel_rfl) (by kernel_rfl) (by kernel_rfl) (by kernel_rfl) (by kernel_rfl) (fun _ _ _ h => h) (Or.inl ⟨by kernel_rfl, fun w' hS => by obtain ⟨s0, s1, s2, s3, s4, s5, s6⟩ := hS; go_simp⟩) (hS3 (by decide)) ?_
  simp only [Act.put, List.setIfInBounds_toArray, List.set_cons_zero, List.set_cons_succ]
  refine wpTill_one (i := 22) (by kernel_rfl) rfl (fun K hK => ?_)
  have HK := Lib.hid hK.out
  clear hK
  go_simp
  refine (HE.out _).mono ?_
  rintro e wk4 ⟨rfl, hB⟩
  have HX := Lib.hid (L2.on hB (hS3 (by decide)))
  clear hB
  refine HK.out _ _ (fun _ => HX.out) (fun hS4 => ?_)
  clear HK HX
  refine wpTill_take (i := 25) (v := .bool true) rfl (by kernel_rfl) (by kernel_rfl) (by kernel_rfl) (by kernel_rfl) (by kernel_rfl) (fun _ _ _ h => h) (Or.inl ⟨by kernel_rfl, fun w' hS => by obtain ⟨s0, s1, s2, s3, s4, s5, s6⟩ := hS; go_simp⟩) (hS4 (by decide)) ?_
  simp only [Act.put, List.setIfInBounds_toArray, List.set_cons_zero, List.set_cons_succ]
  refine wpTill_take (i := 26) (v := .int .i64 j) rfl (by kernel_rfl) (by kernel_rfl) (by kernel_rfl) (by kernel_rfl) (by kernel_rfl) (fun _ _ _ h => h) (Or.inl ⟨by kernel_rfl, fun w' hS => by obtain ⟨s0, s1, s2, s3, s4, s5, s6⟩ := hS; go_simp⟩) (hS4 (by decide)) ?_
  simp only [Act.put, List.setIfInBounds_toArray, List.set_cons_zero, List.set_cons_succ]
  refine wpTill_take (i := 27) (v := .pointer (some ⟨w.heap.size, 1, none⟩)) rfl (by kernel_rfl) (by kernel_rfl) (by kernel_rfl) (by kernel_rfl) (by kernel_rfl) (fun _ _ _ h => h) (Or.inl ⟨by kernel_rfl, fun w' hS => by obtain ⟨s0, s1, s2, s3, s4, s5, s6⟩ := hS; go_simp⟩) (hS4 (by decide)) ?_
  simp only [Act.put, List.setIfInBounds_toArray, List.set_cons_zero, List.set_cons_succ]
  refine wpTill_take (i := 28) (v := .slice a m c) rfl (by kernel_rfl) (by kernel_rfl) (by kernel_rfl) (by kernel_rfl) (by kernel_rfl) (fun _ _ _ h => h) (Or.inl ⟨by kernel_rfl, fun w' hS => by obtain ⟨s0, s1, s2, s3, s4, s5, s6⟩ := hS; go_simp⟩) (hS4 (by decide)) ?_
  simp only [Act.put, List.setIfInBounds_toArray, List.set_cons_zero, List.set_cons_succ]
  refine wpTill_take (i := 29) (v := .int .i64 (m : Int)) rfl (by kernel_rfl) (by kernel_rfl) (by kernel_rfl) (by kernel_rfl) (by kernel_rfl) (fun _ _ _ h => h) (Or.inl ⟨by kernel_rfl, fun w' hS => by obtain ⟨s0, s1, s2, s3, s4, s5, s6⟩ := hS; go_simp⟩) (hS4 (by decide)) ?_
  simp only [Act.put, List.setIfInBounds_toArray, List.set_cons_zero, List.set_cons_succ]
  refine wpTill_take (i := 30) (v := .bool (decide (j < (m : Int)))) rfl (by kernel_rfl) (by kernel_rfl) (by kernel_rfl) (by kernel_rfl) (by kernel_rfl) (fun _ _ _ h => h) (Or.inl ⟨by kernel_rfl, fun w' hS => by obtain ⟨s0, s1, s2, s3, s4, s5, s6⟩ := hS; go_simp⟩) (hS4 (by decide)) ?_
  simp only [Act.put, List.setIfInBounds_toArray, List.set_cons_zero, List.set_cons_succ]
  refine wpTill_take (i := 31) (v := .bool (decide (j < (m : Int)))) rfl (by kernel_rfl) (by kernel_rfl) (by kernel_rfl) (by kernel_rfl) (by kernel_rfl) (fun _ _ _ h => h) (Or.inl ⟨by kernel_rfl, fun w' hS => by obtain ⟨s0, s1, s2, s3, s4, s5, s6⟩ := hS; go_simp⟩) (hS4 (by decide)) ?_
  simp only [Act.put, List.setIfInBounds_toArray, List.set_cons_zero, List.set_cons_succ]
  refine wpTill_take (i := 32) (v := .bool true) rfl (by kernel_rfl) (by kernel_rfl) (by kernel_rfl) (by kernel_rfl) (by kernel_rfl) (fun _ _ _ h => h) (Or.inl ⟨by kernel_rfl, fun w' hS => by obtain ⟨s0, s1, s2, s3, s4, s5, s6⟩ := hS; go_simp⟩) (hS4 (by decide)) ?_
  simp only [Act.put, List.setIfInBounds_toArray, List.set_cons_zero, List.set_cons_succ]
  refine wpTill_take (i := 33) (v := .bool true) rfl (by kernel_rfl) (by kernel_rfl) (by kernel_rfl) (by kernel_rfl) (by kernel_rfl) (fun _ _ _ h => h) (Or.inl ⟨by kernel_rfl, fun w' hS => by obtain ⟨s0, s1, s2, s3, s4, s5, s6⟩ := hS; go_simp⟩) (hS4 (by decide)) ?_
  simp only [Act.put, List.setIfInBounds_toArray, List.set_cons_zero, List.set_cons_succ]
  refine wpTill_take (i := 34) (v := .bool true) rfl (by kernel_rfl) (by kernel_rfl) (by kernel_rfl) (by kernel_rfl) (by kernel_rfl) (fun _ _ _ h => h) (Or.inl ⟨by kernel_rfl, fun w' hS => by obtain ⟨s0, s1, s2, s3, s4, s5, s6⟩ := hS; go_simp⟩) (hS4 (by decide)) ?_
  simp only [Act.put, List.setIfInBounds_toArray, List.set_cons_zero, List.set_cons_succ]
  refine wpTill_take (i := 35) (v := .agg #[.int .i64 n, .slice a m c]) rfl (by kernel_rfl) (by kernel_rfl) (by kernel_rfl) (by kernel_rfl) (by kernel_rfl) (fun _ _ _ h => h) (Or.inl ⟨by kernel_rfl, fun w' hS => by obtain ⟨s0, s1, s2, s3, s4, s5, s6⟩ := hS; go_simp⟩) (hS4 (by decide)) ?_
  simp only [Act.put, List.setIfInBounds_toArray, List.set_cons_zero, List.set_cons_succ]
  refine wpTill_take (i := 36) (v := .agg #[.int .i64 n2, .slice a2 m2 c2]) rfl (by kernel_rfl) (by kernel_rfl) (by kernel_rfl) (by kernel_rfl) (by kernel_rfl) (fun _ _ _ h => h) (Or.inl ⟨by kernel_rfl, fun w' hS => by obtain ⟨s0, s1, s2, s3, s4, s5, s6⟩ := hS; go_simp⟩) (hS4 (by decide)) ?_
  simp only [Act.put, List.setIfInBounds_toArray, List.set_cons_zero, List.set_cons_succ]
  refine wpTill_take (i := 38) (v := .agg #[.int .i64 n, .slice a m c]) rfl (by kernel_rfl) (by kernel_rfl) (by kernel_rfl) (by kernel_rfl) (by kernel_rfl) (fun _ _ _ h => h) (Or.inl ⟨by kernel_rfl, fun w' hS => by obtain ⟨s0, s1, s2, s3, s4, s5, s6⟩ := hS; go_simp⟩) (hS4 (by decide)) ?_
  simp only [Act.put, List.setIfInBounds_toArray, List.set_cons_zero, List.set_cons_succ]
  refine wpTill_take (i := 39) (v := .agg #[.int .i64 n2, .slice a2 m2 c2]) rfl (by kernel_rfl) (by kernel_rfl) (by kernel_rfl) (by kernel_rfl) (by kernel_rfl) (fun _ _ _ h => h) (Or.inl ⟨by kernel_rfl, fun w' hS => by obtain ⟨s0, s1, s2, s3, s4, s5, s6⟩ := hS; go_simp⟩) (hS4 (by decide)) ?_
  simp only [Act.put, List.setIfInBounds_toArray, List.set_cons_zero, List.set_cons_succ]
  refine wpTill_one (i := 37) (by kernel_rfl) rfl (fun K hK => ?_)
  have HK := Lib.hid hK.out
  clear hK
  go_simp
  refine (HS1.out _ (hS4 (by decide)).2.2.2.2.1.out (hS4 (by decide)).2.2.2.2.2.1.out).mono ?_
  rintro e wk5 ⟨rfl, hB⟩
  have HX := Lib.hid (L2.on hB (hS4 (by decide)))
  clear hB
  refine HK.out _ _ (fun _ => HX.out) (fun hS5 => ?_)
  clear HK HX
  refine wpTill_one (i := 40) (by kernel_rfl) rfl (fun K hK => ?_)
  have HK := Lib.hid hK.out
  clear hK
  go_simp
  refine (HS2.out _ (hS5 (by decide)).2.2.2.2.1.out (hS5 (by decide)).2.2.2.2.2.1.out).mono ?_
  rintro e wk6 ⟨rfl, hB⟩
  have HX := Lib.hid (L2.on hB (hS5 (by decide)))
  clear hB
  refine HK.out _ _ (fun _ => HX.out) (fun hS6 => ?_)
  clear HK HX
  refine wpTill_take (i := 41) (v := .bool true) rfl (by kernel_rfl) (by kernel_rfl) (by kernel_rfl) (by kernel_rfl) (by kernel_rfl) (fun _ _ _ h => h) (Or.inl ⟨by kernel_rfl, fun w' hS => by obtain ⟨s0, s1, s2, s3, s4, s5, s6⟩ := hS; go_simp⟩) (hS6 (by decide)) ?_
  simp only [Act.put, List.setIfInBounds_toArray, List.set_cons_zero, List.set_cons_succ]
  refine wpTill_take (i := 42) (v := .bool true) rfl (by kernel_rfl) (by kernel_rfl) (by kernel_rfl) (by kernel_rfl) (by kernel_rfl) (fun _ _ _ h => h) (Or.inl ⟨by kernel_rfl, fun w' hS => by obtain ⟨s0, s1, s2, s3, s4, s5, s6⟩ := hS; go_simp⟩) (hS6 (by decide)) ?_
  simp only [Act.put, List.setIfInBounds_toArray, List.set_cons_zero, List.set_cons_succ]
  refine wpTill_take (i := 43) (v := .bool true) rfl (by kernel_rfl) (by kernel_rfl) (by kernel_rfl) (by kernel_rfl) (by kernel_rfl) (fun _ _ _ h => h) (Or.inl ⟨by kernel_rfl, fun w' hS => by obtain ⟨s0, s1, s2, s3, s4, s5, s6⟩ := hS; go_simp⟩) (hS6 (by decide)) ?_
  simp only [Act.put, List.setIfInBounds_toArray, List.set_cons_zero, List.set_cons_succ]
  refine wpTill_take (i := 44) (v := .agg #[.int .i64 n, .slice a m c]) rfl (by kernel_rfl) (by kernel_rfl) (by kernel_rfl) (by kernel_rfl) (by kernel_rfl) (fun _ _ _ h => h) (Or.inl ⟨by kernel_rfl, fun w' hS => by obtain ⟨s0, s1, s2, s3, s4, s5, s6⟩ := hS; go_simp⟩) (hS6 (by decide)) ?_
  simp only [Act.put, List.setIfInBounds_toArray, List.set_cons_zero, List.set_cons_succ]
  refine wpTill_take (i := 46) (v := .agg #[.int .i64 n, .slice a m c]) rfl (by kernel_rfl) (by kernel_rfl) (by kernel_rfl) (by kernel_rfl) (by kernel_rfl) (fun _ _ _ h => h) (Or.inl ⟨by kernel_rfl, fun w' hS => by obtain ⟨s0, s1, s2, s3, s4, s5, s6⟩ := hS; go_simp⟩) (hS6 (by decide)) ?_
  simp only [Act.put, List.setIfInBounds_toArray, List.set_cons_zero, List.set_cons_succ]
  refine wpTill_one (i := 45) (by kernel_rfl) rfl (fun K hK => ?_)
  have HK := Lib.hid hK.out
  clear hK
  go_simp
  refine (HC.out _ (hS6 (by decide)).2.2.2.2.1.out).mono ?_
  rintro e wk7 ⟨vC, rfl, hE, hB⟩
  have HX := Lib.hid (L2.on hB (hS6 (by decide)))
  have HCE := Lib.hid hE; clear hE
  clear hB
  refine HK.out _ _ (fun _ => HX.out) (fun hS7 => ?_)
  clear HK HX
  refine wpTill_one (i := 47) (by kernel_rfl) rfl (fun K hK => ?_)
  have HK := Lib.hid hK.out
  clear hK
  go_simp
  refine (HS3.out _ _ HCE.out (hS7 (by decide)).2.2.2.2.1.out).mono ?_
  rintro e wk8 ⟨rfl, hB⟩
  have HX := Lib.hid (L2.on hB (hS7 (by decide)))
  clear hB
  refine HK.out _ _ (fun _ => HX.out) (fun hS8 => ?_)
  clear HK HX
  refine wpTill_take (i := 48) (v := .bool true) rfl (by kernel_rfl) (by kernel_rfl) (by kernel_rfl) (by kernel_rfl) (by kernel_rfl) (fun _ _ _ h => h) (Or.inl ⟨by kernel_rfl, fun w' hS => by obtain ⟨s0, s1, s2, s3, s4, s5, s6⟩ := hS; go_simp⟩) (hS8 (by decide)) ?_
  simp only [Act.put, List.setIfInBounds_toArray, List.set_cons_zero, List.set_cons_succ]
  refine wpTill_take (i := 49) (v := .bool true) rfl (by kernel_rfl) (by kernel_rfl) (by kernel_rfl) (by kernel_rfl) (by kernel_rfl) (fun _ _ _ h => h) (Or.inl ⟨by kernel_rfl, fun w' hS => by obtain ⟨s0, s1, s2, s3, s4, s5, s6⟩ := hS; go_simp⟩) (hS8 (by decide)) ?_
  simp only [Act.put, List.setIfInBounds_toArray, List.set_cons_zero, List.set_cons_succ]
  refine wpTill_one (i := 50) (by kernel_rfl) rfl (fun K hK => ?_)
  have HK := Lib.hid hK.out
  clear hK
  go_simp
  refine (HA.out _).mono ?_
  rintro e wk9 ⟨rfl, hB⟩
  have HX := Lib.hid (L2.on hB (hS8 (by decide)))
  clear hB
  refine HK.out _ _ (fun _ => HX.out) (fun hS9 => ?_)
  clear HK HX
  refine wpTill_take (i := 51) (v := .bool true) rfl (by kernel_rfl) (by kernel_rfl) (by kernel_rfl) (by kernel_rfl) (by kernel_rfl) (fun _ _ _ h => h) (Or.inl ⟨by kernel_rfl, fun w' hS => by obtain ⟨s0, s1, s2, s3, s4, s5, s6⟩ := hS; go_simp⟩) (hS9 (by decide)) ?_
  simp only [Act.put, List.setIfInBounds_toArray, List.set_cons_zero, List.set_cons_succ]
  have HZ := (hS9 (by decide)).2.2.2.2.2.2
  refine wpTill_one (i := 52) (by kernel_rfl) rfl (fun K hK => ?_)
  have HK := Lib.hid hK.out
  clear hK
  go_simp
  refine HK.out _ _ (fun h => absurd rfl h) (fun _ => ?_)
  clear HK
  refine wpTill_done (by kernel_rfl) ?_ _
  go_wp2
  go_ret
  exact ⟨rfl, HZ.out⟩
set_option maxHeartbeats 8000000 in
theorem looks_np (G : GSpec) (n n2 i j : Int) (es es2 : List Ed) (a a2 : Option Addr) (m c m2 c2 : Nat) (hm : es.length = m) (hm2 : es2.length = m2) (hl : lightB n m = true) (hl2 : lightB n2 m2 = true) (hi : i < 0) (hj : 0 ≤ j) (w : World) (hE : EdgesAt w (.slice a m c) es) (hE2 : EdgesAt w (.slice a2 m2 c2) es2) :
    Calls Try.prog 3 #[.agg #[.int .i64 n, .slice a m c], .agg #[.int .i64 n2, .slice a2 m2 c2], .int .i64 i, .int .i64 j] w fun e w' => e = .returned (.bool true) ∧ Below w.heap.size w w' := by
  have hm3 : m ≤ 300 := by unfold lightB at hl; simp at hl; exact hl.2
  have HL := Lib.hid (fun W => light_any n a m c W)
  rw [hl] at HL
  have HLb := Lib.hid (fun W => light_any n2 a2 m2 c2 W)
  rw [hl2] at HLb
  have HA := Lib.hid (fun W => galive_any G W)
  have HR1 := Lib.hid (fun W h => G.right n (.slice a m c) es W h)
  have HR2 := Lib.hid (fun W (h : EdgesAt W (.slice a m c) es) => rright_any n W h)
  have HN := Lib.hid (fun W => G.node n (.slice a m c) i W)
  have HE := Lib.hid (fun W => G.edge n a m c j W)
  have HS1 := Lib.hid (fun W h1 h2 => G.same n n2 (.slice a m c) (.slice a2 m2 c2) es es2 W (by omega) h1 h2)
  have HS2 := Lib.hid (fun W (h1 : EdgesAt W (.slice a m c) es) (h2 : EdgesAt W (.slice a2 m2 c2) es2) => gsame_any n n2 (by omega) W h1 h2)
  have HC := Lib.hid (fun W h => G.clone n (.slice a m c) es W (by omega) h)
  have HS3 := Lib.hid (fun W v (h1 : EdgesAt W v es) (h2 : EdgesAt W (.slice a m c) es) => gsame_any n n (by omega) W h1 h2)
  rw [decide_eq_true ⟨rfl, rfl⟩] at HS3
  rw [show nodeB n i = false from by unfold nodeB; simp [hi] <;> omega] at HN
  rw [show nodeB (m : Int) j = decide (j < (m : Int)) from by unfold nodeB; simp [hj] <;> omega] at HE
  generalize rightF n es = RF at HR1 HR2
  generalize decide (n = n2 ∧ es = es2) = SB at HS1 HS2
  have hB0 := ((Below.refl w.heap.size w).alloc (Nat.le_refl _) (.cells #[.int .i64 n, .slice a m c] 24)).alloc (by simp) (.cells #[.int .i64 n2, .slice a2 m2 c2] 24)
  have HLS : Hid (L2 w w.heap.size n n2 (.slice a m c) (.slice a2 m2 c2) es es2 ((w.alloc (.cells #[.int .i64 n, .slice a m c] 24)).alloc (.cells #[.int .i64 n2, .slice a2 m2 c2] 24))) := Lib.hid ⟨by simp, by simp, by simp, by simp, Lib.hid (hE.on hB0), Lib.hid (hE2.on hB0), Lib.hid hB0⟩
  clear hB0 hE hE2 hm hm2
  go_enter Try.func3, Try.ntmps3
  go_wp2_with (first
    | (go_at_call 7; refine (HL.out _).mono ?_; rintro e w1 ⟨rfl, hB⟩; have HLS := Lib.hid (HLS.out.on hB); have b0 := HLS.out.1; have b1 := HLS.out.2.1; have b2 := HLS.out.2.2.1; have b3 := HLS.out.2.2.2.1; clear hB HL)
    | (go_at_call 7; refine (HLb.out _).mono ?_; rintro e w2 ⟨rfl, hB⟩; have HLS := Lib.hid (HLS.out.on hB); clear b0 b1 b2 b3; clear hB HLb))
  have HL2 := HLS.out
  clear HLS
  refine region_till (fun w' => w'.cell? ⟨w.heap.size, 0, none⟩ = some (.int .i64 n) ∧ w'.cell? ⟨w.heap.size, 1, none⟩ = some (.slice a m c) ∧ w'.cell? ⟨w.heap.size + 1, 0, none⟩ = some (.int .i64 n2) ∧ w'.cell? ⟨w.heap.size + 1, 1, none⟩ = some (.slice a2 m2 c2) ∧ Hid (EdgesAt w' (.slice a m c) es) ∧ Hid (EdgesAt w' (.slice a2 m2 c2) es2) ∧ Hid (Below w.heap.size w w')) 52 (by kernel_rfl) (L2.on (Below.refl _ _).drew HL2) (fun hS0 => ?_)
  refine wpTill_take (i := 0) (v := .agg #[.int .i64 n, .slice a m c]) rfl (by kernel_rfl) (by kernel_rfl) (by kernel_rfl) (by kernel_rfl) (by kernel_rfl) (fun _ _ _ h => h) (Or.inl ⟨by kernel_rfl, fun w' hS => by obtain ⟨s0, s1, s2, s3, s4, s5, s6⟩ := hS; go_simp⟩) hS0 ?_
  simp only [Act.put, List.setIfInBounds_toArray, List.set_cons_zero, List.set_cons_succ]
  refine wpTill_take (i := 2) (v := .agg #[.int .i64 n, .slice a m c]) rfl (by kernel_rfl) (by kernel_rfl) (by kernel_rfl) (by kernel_rfl) (by kernel_rfl) (fun _ _ _ h => h) (Or.inl ⟨by kernel_rfl, fun w' hS => by obtain ⟨s0, s1, s2, s3, s4, s5, s6⟩ := hS; go_simp⟩) hS0 ?_
  simp only [Act.put, List.setIfInBounds_toArray, List.set_cons_zero, List.set_cons_succ]
  refine wpTill_one (i := 1) (by kernel_rfl) rfl (fun K hK => ?_)
  have HK := Lib.hid hK.out
  clear hK
  go_simp
  refine (HR1.out _ hS0.2.2.2.2.1.out).mono ?_
  rintro e wk1 ⟨rfl, hB⟩
  have HX := Lib.hid (L2.on hB hS0)
  clear hB
  refine HK.out _ _ (fun _ => HX.out) (fun hS1 => ?_)
  clear HK HX
  refine wpTill_one (i := 3) (by kernel_rfl) rfl (fun K hK => ?_)
  have HK := Lib.hid hK.out
  clear hK
  go_simp
  refine (HR2.out _ (hS1 (by decide)).2.2.2.2.1.out).mono ?_
  rintro e wk2 ⟨rfl, hB⟩
  have HX := Lib.hid (L2.on hB (hS1 (by decide)))
  clear hB
  refine HK.out _ _ (fun _ => HX.out) (fun hS2 => ?_)
  clear HK HX
  refine wpTill_take (i := 4) (v := .bool true) rfl (by kernel_rfl) (by kernel_rfl) (by kernel_rfl) (by kernel_rfl) (by kernel_rfl) (fun _ _ _ h => h) (Or.inl ⟨by kernel_rfl, fun w' hS => by obtain ⟨s0, s1, s2, s3, s4, s5, s6⟩ := hS; go_simp⟩) (hS2 (by decide)) ?_
  simp only [Act.put, List.setIfInBounds_toArray, List.set_cons_zero, List.set_cons_succ]
  refine wpTill_take (i := 5) (v := .bool true) rfl (by kernel_rfl) (by kernel_rfl) (by kernel_rfl) (by kernel_rfl) (by kernel_rfl) (fun _ _ _ h => h) (Or.inl ⟨by kernel_rfl, fun w' hS => by obtain ⟨s0, s1, s2, s3, s4, s5, s6⟩ := hS; go_simp⟩) (hS2 (by decide)) ?_
  simp only [Act.put, List.setIfInBounds_toArray, List.set_cons_zero, List.set_cons_succ]
  refine wpTill_take (i := 6) (v := .agg #[.int .i64 n, .slice a m c]) rfl (by kernel_rfl) (by kernel_rfl) (by kernel_rfl) (by kernel_rfl) (by kernel_rfl) (fun _ _ _ h => h) (Or.inl ⟨by kernel_rfl, fun w' hS => by obtain ⟨s0, s1, s2, s3, s4, s5, s6⟩ := hS; go_simp⟩) (hS2 (by decide)) ?_
  simp only [Act.put, List.setIfInBounds_toArray, List.set_cons_zero, List.set_cons_succ]
  refine wpTill_take (i := 7) (v := .int .i64 i) rfl (by kernel_rfl) (by kernel_rfl) (by kernel_rfl) (by kernel_rfl) (by kernel_rfl) (fun _ _ _ h => h) (Or.inl ⟨by kernel_rfl, fun w' hS => by obtain ⟨s0, s1, s2, s3, s4, s5, s6⟩ := hS; go_simp⟩) (hS2 (by decide)) ?_
  simp only [Act.put, List.setIfInBounds_toArray, List.set_cons_zero, List.set_cons_succ]
  refine wpTill_take (i := 9) (v := .int .i64 i) rfl (by kernel_rfl) (by kernel_rfl) (by kernel_rfl) (by kernel_rfl) (by kernel_rfl) (fun _ _ _ h => h) (Or.inl ⟨by kernel_rfl, fun w' hS => by obtain ⟨s0, s1, s2, s3, s4, s5, s6⟩ := hS; go_simp⟩) (hS2 (by decide)) ?_
  simp only [Act.put, List.setIfInBounds_toArray, List.set_cons_zero, List.set_cons_succ]
  refine wpTill_take (i := 10) (v := .bool false) rfl (by kernel_rfl) (by kernel_rfl) (by kernel_rfl) (by kernel_rfl) (by kernel_rfl) (fun _ _ _ h => h) (Or.inl ⟨by kernel_rfl, fun w' hS => by obtain ⟨s0, s1, s2, s3, s4, s5, s6⟩ := hS; go_simp⟩) (hS2 (by decide)) ?_
  simp only [Act.put, List.setIfInBounds_toArray, List.set_cons_zero, List.set_cons_succ]
  refine wpTill_one (i := 8) (by kernel_rfl) rfl (fun K hK => ?_)
  have HK := Lib.hid hK.out
  clear hK
  go_simp
  refine (HN.out _).mono ?_
  rintro e wk3 ⟨rfl, hB⟩
  have HX := Lib.hid (L2.on hB (hS2 (by decide)))
  clear hB
  refine HK.out _ _ (fun _ => HX.out) (fun hS3 => ?_)
  clear HK HX
  refine wpTill_take (i := 11) (v := .bool false) rfl (by kernel_rfl) (by kernel_rfl) (by kernel_rfl) (by kernel_rfl) (by kernel_rfl) (fun _ _ _ h => h) (Or.inl ⟨by kernel_rfl, fun w' hS => by obtain ⟨s0, s1, s2, s3, s4, s5, s6⟩ := hS; go_simp⟩) (hS3 (by decide)) ?_
  simp only [Act.put, List.setIfInBounds_toArray, List.set_cons_zero, List.set_cons_succ]
  refine wpTill_take (i := 12) (v := undef) rfl (by kernel_rfl) (by kernel_rfl) (by kernel_rfl) (by kernel_rfl) (by kernel_rfl) (fun _ _ _ h => h) (Or.inr ⟨by kernel_rfl, rfl⟩) (hS3 (by decide)) ?_
  simp only [Act.put, List.setIfInBounds_toArray, List.set_cons_zero, List.set_cons_succ]
  refine wpTill_take (i := 13) (v := undef) rfl (by kernel_rfl) (by kernel_rfl) (by kernel_rfl) (by kernel_rfl) (by kernel_rfl) (fun _ _ _ h => h) (Or.inr ⟨by kernel_rfl, rfl⟩) (hS3 (by decide)) ?_
  simp only [Act.put, List.setIfInBounds_toArray, List.set_cons_zero, List.set_cons_succ]
  refine wpTill_take (i := 14) (v := undef) rfl (by kernel_rfl) (by kernel_rfl) (by kernel_rfl) (by kernel_rfl) (by kernel_rfl) (fun _ _ _ h => h) (Or.inr ⟨by kernel_rfl, rfl⟩) (hS3 (by decide)) ?_
  simp only [Act.put, List.setIfInBounds_toArray, List.set_cons_zero, List.set_cons_succ]
  refine wpTill_take (i := 15) (v := undef) rfl (by kernel_rfl) (by kernel_rfl) (by kernel_rfl) (by kernel_rfl) (by kernel_rfl) (fun _ _ _ h => h) (Or.inr ⟨by kernel_rfl, rfl⟩) (hS3 (by decide)) ?_
  simp only [Act.put, List.setIfInBounds_toArray, List.set_cons_zero, List.set_cons_succ]
  refine wpTill_take (i := 16) (v := .bool false) rfl (by kernel_rfl) (by kernel_rfl) (by kernel_rfl) (by kernel_rfl) (by kernel_rfl) (fun _ _ _ h => h) (Or.inl ⟨by kernel_rfl, fun w' hS => by obtain ⟨s0, s1, s2, s3, s4, s5, s6⟩ := hS; go_simp⟩) (hS3 (by decide)) ?_
  simp only [Act.put, List.setIfInBounds_toArray, List.set_cons_zero, List.set_cons_succ]
  refine wpTill_take (i := 17) (v := .bool true) rfl (by kernel_rfl) (by kernel_rfl) (by kernel_rfl) (by kernel_rfl) (by kernel_rfl) (fun _ _ _ h => h) (Or.inl ⟨by kernel_rfl, fun w' hS => by obtain ⟨s0, s1, s2, s3, s4, s5, s6⟩ := hS; go_simp⟩) (hS3 (by decide)) ?_
  simp only [Act.put, List.setIfInBounds_toArray, List.set_cons_zero, List.set_cons_succ]
  refine wpTill_take (i := 18) (v := .bool true) rfl (by kernel_rfl) (by kernel_rfl) (by kernel_rfl) (by kernel_rfl) (by kernel_rfl) (fun _ _ _ h => h) (Or.inl ⟨by kernel_rfl, fun w' hS => by obtain ⟨s0, s1, s2, s3, s4, s5, s6⟩ := hS; go_simp⟩) (hS3 (by decide)) ?_
  simp only [Act.put, List.setIfInBounds_toArray, List.set_cons_zero, List.set_cons_succ]
  refine wpTill_take (i := 19) (v := .bool true) rfl (by kernel_rfl) (by kernel_rfl) (by kernel_rfl) (by kernel_rfl) (by kernel_rfl) (fun _ _ _ h => h) (Or.inl ⟨by kernel_rfl, fun w' hS => by obtain ⟨s0, s1, s2, s3, s4, s5, s6⟩ := hS; go_simp⟩) (hS3 (by decide)) ?_
  simp only [Act.put, List.setIfInBounds_toArray, List.set_cons_zero, List.set_cons_succ]
  refine wpTill_take (i := 20) (v := .agg #[.int .i64 n, .slice a m c]) rfl (by kernel_rfl) (by kernel_rfl) (by kernel_rfl) (by kernel_rfl) (by kernel_rfl) (fun _ _ _ h => h) (Or.inl ⟨by kernel_rfl, fun w' hS => by obtain ⟨s0, s1, s2, s3, s4, s5, s6⟩ := hS; go_simp⟩) (hS3 (by decide)) ?_
  simp only [Act.put, List.setIfInBounds_toArray, List.set_cons_zero, List.set_cons_succ]
  refine wpTill_take (i := 21) (v := .int .i64 j) rfl (by kernel_rfl) (by kernel_rfl) (by kernel_rfl) (by kernel_rfl) (by kernel_rfl) (fun _ _ _ h => h) (Or.inl ⟨by kernel_rfl, fun w' hS => by obtain ⟨s0, s1, s2, s3, s4, s5, s6⟩ := hS; go_simp⟩) (hS3 (by decide)) ?_
  simp only [Act.put, List.setIfInBounds_toArray, List.set_cons_zero, List.set_cons_succ]
  refine wpTill_take (i := 23) (v := .int .i64 j) rfl (by kernel_rfl) (by kernel_rfl) (by kernel_rfl) (by kernel_rfl) (by kernel_rfl) (fun _ _ _ h => h) (Or.inl ⟨by kernel_rfl, fun w' hS => by obtain ⟨s0, s1, s2, s3, s4, s5, s6⟩ := hS; go_simp⟩) (hS3 (by decide)) ?_
  simp only [Act.put, List.setIfInBounds_toArray, List.set_cons_zero, List.set_cons_succ]
  refine wpTill_take (i := 24) (v := .bool true) rfl (by kernel_rfl) (by kernel_rfl) (by kernel_rfl) (by kernel_rfl) (by kernel_rfl) (fun _ _ _ h => h) (Or.inl ⟨by kernel_rfl, fun w' hS => by obtain ⟨s0, s1, s2, s3, s4, s5, s6⟩ := hS; go_simp⟩) (hS3 (by decide)) ?_
  simp only [Act.put, List.setIfInBounds_toArray, List.set_cons_zero, List.set_cons_succ]
  refine wpTill_one (i := 22) (by kernel_rfl) rfl (fun K hK => ?_)
  have HK := Lib.hid hK.out
  clear hK
  go_simp
  refine (HE.out _).mono ?_
  rintro e wk4 ⟨rfl, hB⟩
  have HX := Lib.hid (L2.on hB (hS3 (by decide)))
  clear hB
  refine HK.out _ _ (fun _ => HX.out) (fun hS4 => ?_)
  clear HK HX
  refine wpTill_take (i := 25) (v := .bool true) rfl (by kernel_rfl) (by kernel_rfl) (by kernel_rfl) (by kernel_rfl) (by kernel_rfl) (fun _ _ _ h => h) (Or.inl ⟨by kernel_rfl, fun w' hS => by obtain ⟨s0, s1, s2, s3, s4, s5, s6⟩ := hS; go_simp⟩) (hS4 (by decide)) ?_
  simp only [Act.put, List.setIfInBounds_toArray, List.set_cons_zero, List.set_cons_succ]
  refine wpTill_take (i := 26) (v := .int .i64 j) rfl (by kernel_rfl) (by kernel_rfl) (by kernel_rfl) (by kernel_rfl) (by kernel_rfl) (fun _ _ _ h => h) (Or.inl ⟨by kernel_rfl, fun w' hS => by obtain ⟨s0, s1, s2, s3, s4, s5, s6⟩ := hS; go_simp⟩) (hS4 (by decide)) ?_
  simp only [Act.put, List.setIfInBounds_toArray, List.set_cons_zero, List.set_cons_succ]
  refine wpTill_take (i := 27) (v := .pointer (some ⟨w.heap.size, 1, none⟩)) rfl (by kernel_rfl) (by kernel_rfl) (by kernel_rfl) (by kernel_rfl) (by kernel_rfl) (fun _ _ _ h => h) (Or.inl ⟨by kernel_rfl, fun w' hS => by obtain ⟨s0, s1, s2, s3, s4, s5, s6⟩ := hS; go_simp⟩) (hS4 (by decide)) ?_
  simp only [Act.put, List.setIfInBounds_toArray, List.set_cons_zero, List.set_cons_succ]
  refine wpTill_take (i := 28) (v := .slice a m c) rfl (by kernel_rfl) (by kernel_rfl) (by kernel_rfl) (by kernel_rfl) (by kernel_rfl) (fun _ _ _ h => h) (Or.inl ⟨by kernel_rfl, fun w' hS => by obtain ⟨s0, s1, s2, s3, s4, s5, s6⟩ := hS; go_simp⟩) (hS4 (by decide)) ?_
  simp only [Act.put, List.setIfInBounds_toArray, List.set_cons_zero, List.set_cons_succ]
  refine wpTill_take (i := 29) (v := .int .i64 (m : Int)) rfl (by kernel_rfl) (by kernel_rfl) (by kernel_rfl) (by kernel_rfl) (by kernel_rfl) (fun _ _ _ h => h) (Or.inl ⟨by kernel_rfl, fun w' hS => by obtain ⟨s0, s1, s2, s3, s4, s5, s6⟩ := hS; go_simp⟩) (hS4 (by decide)) ?_
  simp only [Act.put, List.setIfInBounds_toArray, List.set_cons_zero, List.set_cons_succ]
  refine wpTill_take (i := 30) (v := .bool (decide (j < (m : Int)))) rfl (by kernel_rfl) (by kernel_rfl) (by kernel_rfl) (by kernel_rfl) (by kernel_rfl) (fun _ _ _ h => h) (Or.inl ⟨by kernel_rfl, fun w' hS => by obtain ⟨s0, s1, s2, s3, s4, s5, s6⟩ := hS; go_simp⟩) (hS4 (by decide)) ?_
  simp only [Act.put, List.setIfInBounds_toArray, List.set_cons_zero, List.set_cons_succ]
  refine wpTill_take (i := 31) (v := .bool (decide (j < (m : Int)))) rfl (by kernel_rfl) (by kernel_rfl) (by kernel_rfl) (by kernel_rfl) (by kernel_rfl) (fun _ _ _ h => h) (Or.inl ⟨by kernel_rfl, fun w' hS => by obtain ⟨s0, s1, s2, s3, s4, s5, s6⟩ := hS; go_simp⟩) (hS4 (by decide)) ?_
  simp only [Act.put, List.setIfInBounds_toArray, List.set_cons_zero, List.set_cons_succ]
  refine wpTill_take (i := 32) (v := .bool true) rfl (by kernel_rfl) (by kernel_rfl) (by kernel_rfl) (by kernel_rfl) (by kernel_rfl) (fun _ _ _ h => h) (Or.inl ⟨by kernel_rfl, fun w' hS => by obtain ⟨s0, s1, s2, s3, s4, s5, s6⟩ := hS; go_simp⟩) (hS4 (by decide)) ?_
  simp only [Act.put, List.setIfInBounds_toArray, List.set_cons_zero, List.set_cons_succ]
  refine wpTill_take (i := 33) (v := .bool true) rfl (by kernel_rfl) (by kernel_rfl) (by kernel_rfl) (by kernel_rfl) (by kernel_rfl) (fun _ _ _ h => h) (Or.inl ⟨by kernel_rfl, fun w' hS => by obtain ⟨s0, s1, s2, s3, s4, s5, s6⟩ := hS; go_simp⟩) (hS4 (by decide)) ?_
  simp only [Act.put, List.setIfInBounds_toArray, List.set_cons_zero, List.set_cons_succ]
  refine wpTill_take (i := 34) (v := .bool true) rfl (by kernel_rfl) (by kernel_rfl) (by kernel_rfl) (by kernel_rfl) (by kernel_rfl) (fun _ _ _ h => h) (Or.inl ⟨by kernel_rfl, fun w' hS => by obtain ⟨s0, s1, s2, s3, s4, s5, s6⟩ := hS; go_simp⟩) (hS4 (by decide)) ?_
  simp only [Act.put, List.setIfInBounds_toArray, List.set_cons_zero, List.set_cons_succ]
  refine wpTill_take (i := 35) (v := .agg #[.int .i64 n, .slice a m c]) rfl (by kernel_rfl) (by kernel_rfl) (by kernel_rfl) (by kernel_rfl) (by kernel_rfl) (fun _ _ _ h => h) (Or.inl ⟨by kernel_rfl, fun w' hS => by obtain ⟨s0, s1, s2, s3, s4, s5, s6⟩ := hS; go_simp⟩) (hS4 (by decide)) ?_
  simp only [Act.put, List.setIfInBounds_toArray, List.set_cons_zero, List.set_cons_succ]
  refine wpTill_take (i := 36) (v := .agg #[.int .i64 n2, .slice a2 m2 c2]) rfl (by kernel_rfl) (by kernel_rfl) (by kernel_rfl) (by kernel_rfl) (by kernel_rfl) (fun _ _ _ h => h) (Or.inl ⟨by kernel_rfl, fun w' hS => by obtain ⟨s0, s1, s2, s3, s4, s5, s6⟩ := hS; go_simp⟩) (hS4 (by decide)) ?_
  simp only [Act.put, List.setIfInBounds_toArray, List.set_cons_zero, List.set_cons_succ]
  refine wpTill_take (i := 38) (v := .agg #[.int .i64 n, .slice a m c]) rfl (by kernel_rfl) (by kernel_rfl) (by kernel_rfl) (by kernel_rfl) (by kernel_rfl) (fun _ _ _ h => h) (Or.inl ⟨by kernel_rfl, fun w' hS => by obtain ⟨s0, s1, s2, s3, s4, s5, s6⟩ := hS; go_simp⟩) (hS4 (by decide)) ?_
  simp only [Act.put, List.setIfInBounds_toArray, List.set_cons_zero, List.set_cons_succ]
  refine wpTill_take (i := 39) (v := .agg #[.int .i64 n2, .slice a2 m2 c2]) rfl (by kernel_rfl) (by kernel_rfl) (by kernel_rfl) (by kernel_rfl) (by kernel_rfl) (fun _ _ _ h => h) (Or.inl ⟨by kernel_rfl, fun w' hS => by obtain ⟨s0, s1, s2, s3, s4, s5, s6⟩ := hS; go_simp⟩) (hS4 (by decide)) ?_
  simp only [Act.put, List.setIfInBounds_toArray, List.set_cons_zero, List.set_cons_succ]
  refine wpTill_one (i := 37) (by kernel_rfl) rfl (fun K hK => ?_)
  have HK := Lib.hid hK.out
  clear hK
  go_simp
  refine (HS1.out _ (hS4 (by decide)).2.2.2.2.1.out (hS4 (by decide)).2.2.2.2.2.1.out).mono ?_
  rintro e wk5 ⟨rfl, hB⟩
  have HX := Lib.hid (L2.on hB (hS4 (by decide)))
  clear hB
  refine HK.out _ _ (fun _ => HX.out) (fun hS5 => ?_)
  clear HK HX
  refine wpTill_one (i := 40) (by kernel_rfl) rfl (fun K hK => ?_)
  have HK := Lib.hid hK.out
  clear hK
  go_simp
  refine (HS2.out _ (hS5 (by decide)).2.2.2.2.1.out (hS5 (by decide)).2.2.2.2.2.1.out).mono ?_
  rintro e wk6 ⟨rfl, hB⟩
  have HX := Lib.hid (L2.on hB (hS5 (by decide)))
  clear hB
  refine HK.out _ _ (fun _ => HX.out) (fun hS6 => ?_)
  clear HK HX
  refine wpTill_take (i := 41) (v := .bool true) rfl (by kernel_rfl) (by kernel_rfl) (by kernel_rfl) (by kernel_rfl) (by kernel_rfl) (fun _ _ _ h => h) (Or.inl ⟨by kernel_rfl, fun w' hS => by obtain ⟨s0, s1, s2, s3, s4, s5, s6⟩ := hS; go_simp⟩) (hS6 (by decide)) ?_
  simp only [Act.put, List.setIfInBounds_toArray, List.set_cons_zero, List.set_cons_succ]
  refine wpTill_take (i := 42) (v := .bool true) rfl (by kernel_rfl) (by kernel_rfl) (by kernel_rfl) (by kernel_rfl) (by kernel_rfl) (fun _ _ _ h => h) (Or.inl ⟨by kernel_rfl, fun w' hS => by obtain ⟨s0, s1, s2, s3, s4, s5, s6⟩ := hS; go_simp⟩) (hS6 (by decide)) ?_
  simp only [Act.put, List.setIfInBounds_toArray, List.set_cons_zero, List.set_cons_succ]
  refine wpTill_take (i := 43) (v := .bool true) rfl (by kernel_rfl) (by kernel_rfl) (by kernel_rfl) (by kernel_rfl) (by kernel_rfl) (fun _ _ _ h => h) (Or.inl ⟨by kernel_rfl, fun w' hS => by obtain ⟨s0, s1, s2, s3, s4, s5, s6⟩ := hS; go_simp⟩) (hS6 (by decide)) ?_
  simp only [Act.put, List.setIfInBounds_toArray, List.set_cons_zero, List.set_cons_succ]
  refine wpTill_take (i := 44) (v := .agg #[.int .i64 n, .slice a m c]) rfl (by kernel_rfl) (by kernel_rfl) (by kernel_rfl) (by kernel_rfl) (by kernel_rfl) (fun _ _ _ h => h) (Or.inl ⟨by kernel_rfl, fun w' hS => by obtain ⟨s0, s1, s2, s3, s4, s5, s6⟩ := hS; go_simp⟩) (hS6 (by decide)) ?_
  simp only [Act.put, List.setIfInBounds_toArray, List.set_cons_zero, List.set_cons_succ]
  refine wpTill_take (i := 46) (v := .agg #[.int .i64 n, .slice a m c]) rfl (by kernel_rfl) (by kernel_rfl) (by kernel_rfl) (by kernel_rfl) (by kernel_rfl) (fun _ _ _ h => h) (Or.inl ⟨by kernel_rfl, fun w' hS => by obtain ⟨s0, s1, s2, s3, s4, s5, s6⟩ := hS; go_simp⟩) (hS6 (by decide)) ?_
  simp only [Act.put, List.setIfInBounds_toArray, List.set_cons_zero, List.set_cons_succ]
  refine wpTill_one (i := 45) (by kernel_rfl) rfl (fun K hK => ?_)
  have HK := Lib.hid hK.out
  clear hK
  go_simp
  refine (HC.out _ (hS6 (by decide)).2.2.2.2.1.out).mono ?_
  rintro e wk7 ⟨vC, rfl, hE, hB⟩
  have HX := Lib.hid (L2.on hB (hS6 (by decide)))
  have HCE := Lib.hid hE; clear hE
  clear hB
  refine HK.out _ _ (fun _ => HX.out) (fun hS7 => ?_)
  clear HK HX
  refine wpTill_one (i := 47) (by kernel_rfl) rfl (fun K hK => ?_)
  have HK := Lib.hid hK.out
  clear hK
  go_simp
  refine (HS3.out _ _ HCE.out (hS7 (by decide)).2.2.2.2.1.out).mono ?_
  rintro e wk8 ⟨rfl, hB⟩
  have HX := Lib.hid (L2.on hB (hS7 (by decide)))
  clear hB
  refine HK.out _ _ (fun _ => HX.out) (fun hS8 => ?_)
  clear HK HX
  refine wpTill_take (i := 48) (v := .bool true) rfl (by kernel_rfl) (by kernel_rfl) (by kernel_rfl) (by kernel_rfl) (by kernel_rfl) (fun _ _ _ h => h) (Or.inl ⟨by kernel_rfl, fun w' hS => by obtain ⟨s0, s1, s2, s3, s4, s5, s6⟩ := hS; go_simp⟩) (hS8 (by decide)) ?_
  simp only [Act.put, List.setIfInBounds_toArray, List.set_cons_zero, List.set_cons_succ]
  refine wpTill_take (i := 49) (v := .bool true) rfl (by kernel_rfl) (by kernel_rfl) (by kernel_rfl) (by kernel_rfl) (by kernel_rfl) (fun _ _ _ h => h) (Or.inl ⟨by kernel_rfl, fun w' hS => by obtain ⟨s0, s1, s2, s3, s4, s5, s6⟩ := hS; go_simp⟩) (hS8 (by decide)) ?_
  simp only [Act.put, List.setIfInBounds_toArray, List.set_cons_zero, List.set_cons_succ]
  refine wpTill_one (i := 50) (by kernel_rfl) rfl (fun K hK => ?_)
  have HK := Lib.hid hK.out
  clear hK
  go_simp
  refine (HA.out _).mono ?_
  rintro e wk9 ⟨rfl, hB⟩
  have HX := Lib.hid (L2.on hB (hS8 (by decide)))
  clear hB
  refine HK.out _ _ (fun _ => HX.out) (fun hS9 => ?_)
  clear HK HX
  refine wpTill_take (i := 51) (v := .bool true) rfl (by kernel_rfl) (by kernel_rfl) (by kernel_rfl) (by kernel_rfl) (by kernel_rfl) (fun _ _ _ h => h) (Or.inl ⟨by kernel_rfl, fun w' hS => by obtain ⟨s0, s1, s2, s3, s4, s5, s6⟩ := hS; go_simp⟩) (hS9 (by decide)) ?_
  simp only [Act.put, List.setIfInBounds_toArray, List.set_cons_zero, List.set_cons_succ]
  have HZ := (hS9 (by decide)).2.2.2.2.2.2
  refine wpTill_one (i := 52) (by kernel_rfl) rfl (fun K hK => ?_)
  have HK := Lib.hid hK.out
  clear hK
  go_simp
  refine HK.out _ _ (fun h => absurd rfl h) (fun _ => ?_)
  clear HK
  refine wpTill_done (by kernel_rfl) ?_ _
  go_wp2
  go_ret
  exact ⟨rfl, HZ.out⟩
set_option maxHeartbeats 8000000 in
theorem looks_pn (G : GSpec) (n n2 i j : Int) (es es2 : List Ed) (a a2 : Option Addr) (m c m2 c2 : Nat) (hm : es.length = m) (hm2 : es2.length = m2) (hl : lightB n m = true) (hl2 : lightB n2 m2 = true) (hi : 0 ≤ i) (hj : j < 0) (w : World) (hE : EdgesAt w (.slice a m c) es) (hE2 : EdgesAt w (.slice a2 m2 c2) es2) :
    Calls Try.prog 3 #[.agg #[.int .i64 n, .slice a m c], .agg #[.int .i64 n2, .slice a2 m2 c2], .int .i64 i, .int .i64 j] w fun e w' => e = .returned (.bool true) ∧ Below w.heap.size w w' := by
  have hm3 : m ≤ 300 := by unfold lightB at hl; simp at hl; exact hl.2
  have HL := Lib.hid (fun W => light_any n a m c W)
  rw [hl] at HL
  have HLb := Lib.hid (fun W => light_any n2 a2 m2 c2 W)
  rw [hl2] at HLb
  have HA := Lib.hid (fun W => galive_any G W)
  have HR1 := Lib.hid (fun W h => G.right n (.slice a m c) es W h)
  have HR2 := Lib.hid (fun W (h : EdgesAt W (.slice a m c) es) => rright_any n W h)
  have HN := Lib.hid (fun W => G.node n (.slice a m c) i W)
  have HE := Lib.hid (fun W => G.edge n a m c j W)
  have HS1 := Lib.hid (fun W h1 h2 => G.same n n2 (.slice a m c) (.slice a2 m2 c2) es es2 W (by omega) h1 h2)
  have HS2 := Lib.hid (fun W (h1 : EdgesAt W (.slice a m c) es) (h2 : EdgesAt W (.slice a2 m2 c2) es2) => gsame_any n n2 (by omega) W h1 h2)
  have HC := Lib.hid (fun W h => G.clone n (.slice a m c) es W (by omega) h)
  have HS3 := Lib.hid (fun W v (h1 : EdgesAt W v es) (h2 : EdgesAt W (.slice a m c) es) => gsame_any n n (by omega) W h1 h2)
  rw [decide_eq_true ⟨rfl, rfl⟩] at HS3
  rw [show nodeB n i = decide (i < n) from by unfold nodeB; simp [hi] <;> omega] at HN
  rw [show nodeB (m : Int) j = false from by unfold nodeB; simp [hj] <;> omega] at HE
  generalize rightF n es = RF at HR1 HR2
  generalize decide (n = n2 ∧ es = es2) = SB at HS1 HS2
  have hB0 := ((Below.refl w.heap.size w).alloc (Nat.le_refl _) (.cells #[.int .i64 n, .slice a m c] 24)).alloc (by simp) (.cells #[.int .i64 n2, .slice a2 m2 c2] 24)
  have HLS : Hid (L2 w w.heap.size n n2 (.slice a m c) (.slice a2 m2 c2) es es2 ((w.alloc (.cells #[.int .i64 n, .slice a m c] 24)).alloc (.cells #[.int .i64 n2, .slice a2 m2 c2] 24))) := Lib.hid ⟨by simp, by simp, by simp, by simp, Lib.hid (hE.on hB0), Lib.hid (hE2.on hB0), Lib.hid hB0⟩
  clear hB0 hE hE2 hm hm2
  go_enter Try.func3, Try.ntmps3
  go_wp2_with (first
    | (go_at_call 7; refine (HL.out _).mono ?_; rintro e w1 ⟨rfl, hB⟩; have HLS := Lib.hid (HLS.out.on hB); have b0 := HLS.out.1; have b1 := HLS.out.2.1; have b2 := HLS.out.2.2.1; have b3 := HLS.out.2.2.2.1; clear hB HL)
    | (go_at_call 7; refine (HLb.out _).mono ?_; rintro e w2 ⟨rfl, hB⟩; have HLS := Lib.hid (HLS.out.on hB); clear b0 b1 b2 b3; clear hB HLb))
  have HL2 := HLS.out
  clear HLS
  refine region_till (fun w' => w'.cell? ⟨w.heap.size, 0, none⟩ = some (.int .i64 n) ∧ w'.cell? ⟨w.heap.size, 1, none⟩ = some (.slice a m c) ∧ w'.cell? ⟨w.heap.size + 1, 0, none⟩ = some (.int .i64 n2) ∧ w'.cell? ⟨w.heap.size + 1, 1, none⟩ = some (.slice a2 m2 c2) ∧ Hid (EdgesAt w' (.slice a m c) es) ∧ Hid (EdgesAt w' (.slice a2 m2 c2) es2) ∧ Hid (Below w.heap.size w w')) 52 (by kernel_rfl) (L2.on (Below.refl _ _).drew HL2) (fun hS0 => ?_)
  refine wpTill_take (i := 0) (v := .agg #[.int .i64 n, .slice a m c]) rfl (by kernel_rfl) (by kernel_rfl) (by kernel_rfl) (by kernel_rfl) (by kernel_rfl) (fun _ _ _ h => h) (Or.inl ⟨by kernel_rfl, fun w' hS => by obtain ⟨s0, s1, s2, s3, s4, s5, s6⟩ := hS; go_simp⟩) hS0 ?_
  simp only [Act.put, List.setIfInBounds_toArray, List.set_cons_zero, List.set_cons_succ]
  refine wpTill_take (i := 2) (v := .agg #[.int .i64 n, .slice a m c]) rfl (by kernel_rfl) (by kernel_rfl) (by kernel_rfl) (by kernel_rfl) (by kernel_rfl) (fun _ _ _ h => h) (Or.inl ⟨by kernel_rfl, fun w' hS => by obtain ⟨s0, s1, s2, s3, s4, s5, s6⟩ := hS; go_simp⟩) hS0 ?_
  simp only [Act.put, List.setIfInBounds_toArray, List.set_cons_zero, List.set_cons_succ]
  refine wpTill_one (i := 1) (by kernel_rfl) rfl (fun K hK => ?_)
  have HK := Lib.hid hK.out
  clear hK
  go_simp
  refine (HR1.out _ hS0.2.2.2.2.1.out).mono ?_
  rintro e wk1 ⟨rfl, hB⟩
  have HX := Lib.hid (L2.on hB hS0)
  clear hB
  refine HK.out _ _ (fun _ => HX.out) (fun hS1 => ?_)
  clear HK HX
  refine wpTill_one (i := 3) (by kernel_rfl) rfl (fun K hK => ?_)
  have HK := Lib.hid hK.out
  clear hK
  go_simp
  refine (HR2.out _ (hS1 (by decide)).2.2.2.2.1.out).mono ?_
  rintro e wk2 ⟨rfl, hB⟩
  have HX := Lib.hid (L2.on hB (hS1 (by decide)))
  clear hB
  refine HK.out _ _ (fun _ => HX.out) (fun hS2 => ?_)
  clear HK HX
  refine wpTill_take (i := 4) (v := .bool true) rfl (by kernel_rfl) (by kernel_rfl) (by kernel_rfl) (by kernel_rfl) (by kernel_rfl) (fun _ _ _ h => h) (Or.inl ⟨by kernel_rfl, fun w' hS => by obtain ⟨s0, s1, s2, s3, s4, s5, s6⟩ := hS; go_simp⟩) (hS2 (by decide)) ?_
  simp only [Act.put, List.setIfInBounds_toArray, List.set_cons_zero, List.set_cons_succ]
  refine wpTill_take (i := 5) (v := .bool true) rfl (by kernel_rfl) (by kernel_rfl) (by kernel_rfl) (by kernel_rfl) (by kernel_rfl) (fun _ _ _ h => h) (Or.inl ⟨by kernel_rfl, fun w' hS => by obtain ⟨s0, s1, s2, s3, s4, s5, s6⟩ := hS; go_simp⟩) (hS2 (by decide)) ?_
  simp only [Act.put, List.setIfInBounds_toArray, List.set_cons_zero, List.set_cons_succ]
  refine wpTill_take (i := 6) (v := .agg #[.int .i64 n, .slice a m c]) rfl (by kernel_rfl) (by kernel_rfl) (by kernel_rfl) (by kernel_rfl) (by kernel_rfl) (fun _ _ _ h => h) (Or.inl ⟨by kernel_rfl, fun w' hS => by obtain ⟨s0, s1, s2, s3, s4, s5, s6⟩ := hS; go_simp⟩) (hS2 (by decide)) ?_
  simp only [Act.put, List.setIfInBounds_toArray, List.set_cons_zero, List.set_cons_succ]
  refine wpTill_take (i := 7) (v := .int .i64 i) rfl (by kernel_rfl) (by kernel_rfl) (by kernel_rfl) (by kernel_rfl) (by kernel_rfl) (fun _ _ _ h => h) (Or.inl ⟨by kernel_rfl, fun w' hS => by obtain ⟨s0, s1, s2, s3, s4, s5, s6⟩ := hS; go_simp⟩) (hS2 (by decide)) ?_
  simp only [Act.put, List.setIfInBounds_toArray, List.set_cons_zero, List.set_cons_succ]
  refine wpTill_take (i := 9) (v := .int .i64 i) rfl (by kernel_rfl) (by kernel_rfl) (by kernel_rfl) (by kernel_rfl) (by kernel_rfl) (fun _ _ _ h => h) (Or.inl ⟨by kernel_rfl, fun w' hS => by obtain ⟨s0, s1, s2, s3, s4, s5, s6⟩ := hS; go_simp⟩) (hS2 (by decide)) ?_
  simp only [Act.put, List.setIfInBounds_toArray, List.set_cons_zero, List.set_cons_succ]
  refine wpTill_take (i := 10) (v := .bool true) rfl (by kernel_rfl) (by kernel_rfl) (by kernel_rfl) (by kernel_rfl) (by kernel_rfl) (fun _ _ _ h => h) (Or.inl ⟨by kernel_rfl, fun w' hS => by obtain ⟨s0, s1, s2, s3, s4, s5, s6⟩ := hS; go_simp⟩) (hS2 (by decide)) ?_
  simp only [Act.put, List.setIfInBounds_toArray, List.set_cons_zero, List.set_cons_succ]
  refine wpTill_one (i := 8) (by kernel_rfl) rfl (fun K hK => ?_)
  have HK := Lib.hid hK.out
  clear hK
  go_simp
  refine (HN.out _).mono ?_
  rintro e wk3 ⟨rfl, hB⟩
  have HX := Lib.hid (L2.on hB (hS2 (by decide)))
  clear hB
  refine HK.out _ _ (fun _ => HX.out) (fun hS3 => ?_)
  clear HK HX
  refine wpTill_take (i := 11) (v := .bool true) rfl (by kernel_rfl) (by kernel_rfl) (by kernel_rfl) (by kernel_rfl) (by kernel_rfl) (fun _ _ _ h => h) (Or.inl ⟨by kernel_rfl, fun w' hS => by obtain ⟨s0, s1, s2, s3, s4, s5, s6⟩ := hS; go_simp⟩) (hS3 (by decide)) ?_
  simp only [Act.put, List.setIfInBounds_toArray, List.set_cons_zero, List.set_cons_succ]
  refine wpTill_take (i := 12) (v := .int .i64 i) rfl (by kernel_rfl) (by kernel_rfl) (by kernel_rfl) (by kernel_rfl) (by kernel_rfl) (fun _ _ _ h => h) (Or.inl ⟨by kernel_rfl, fun w' hS => by obtain ⟨s0, s1, s2, s3, s4, s5, s6⟩ := hS; go_simp⟩) (hS3 (by decide)) ?_
  simp only [Act.put, List.setIfInBounds_toArray, List.set_cons_zero, List.set_cons_succ]
  refine wpTill_take (i := 13) (v := .pointer (some ⟨w.heap.size, 0, none⟩)) rfl (by kernel_rfl) (by kernel_rfl) (by kernel_rfl) (by kernel_rfl) (by kernel_rfl) (fun _ _ _ h => h) (Or.inl ⟨by kernel_rfl, fun w' hS => by obtain ⟨s0, s1, s2, s3, s4, s5, s6⟩ := hS; go_simp⟩) (hS3 (by decide)) ?_
  simp only [Act.put, List.setIfInBounds_toArray, List.set_cons_zero, List.set_cons_succ]
  refine wpTill_take (i := 14) (v := .int .i64 n) rfl (by kernel_rfl) (by kernel_rfl) (by kernel_rfl) (by kernel_rfl) (by kernel_rfl) (fun _ _ _ h => h) (Or.inl ⟨by kernel_rfl, fun w' hS => by obtain ⟨s0, s1, s2, s3, s4, s5, s6⟩ := hS; go_simp⟩) (hS3 (by decide)) ?_
  simp only [Act.put, List.setIfInBounds_toArray, List.set_cons_zero, List.set_cons_succ]
  refine wpTill_take (i := 15) (v := .bool (decide (i < n))) rfl (by kernel_rfl) (by kernel_rfl) (by kernel_rfl) (by kernel_rfl) (by kernel_rfl) (fun _ _ _ h => h) (Or.inl ⟨by kernel_rfl, fun w' hS => by obtain ⟨s0, s1, s2, s3, s4, s5, s6⟩ := hS; go_simp⟩) (hS3 (by decide)) ?_
  simp only [Act.put, List.setIfInBounds_toArray, List.set_cons_zero, List.set_cons_succ]
  refine wpTill_take (i := 16) (v := .bool (decide (i < n))) rfl (by kernel_rfl) (by kernel_rfl) (by kernel_rfl) (by kernel_rfl) (by kernel_rfl) (fun _ _ _ h => h) (Or.inl ⟨by kernel_rfl, fun w' hS => by obtain ⟨s0, s1, s2, s3, s4, s5, s6⟩ := hS; go_simp⟩) (hS3 (by decide)) ?_
  simp only [Act.put, List.setIfInBounds_toArray, List.set_cons_zero, List.set_cons_succ]
  refine wpTill_take (i := 17) (v := .bool true) rfl (by kernel_rfl) (by kernel_rfl) (by kernel_rfl) (by kernel_rfl) (by kernel_rfl) (fun _ _ _ h => h) (Or.inl ⟨by kernel_rfl, fun w' hS => by obtain ⟨s0, s1, s2, s3, s4, s5, s6⟩ := hS; go_simp⟩) (hS3 (by decide)) ?_
  simp only [Act.put, List.setIfInBounds_toArray, List.set_cons_zero, List.set_cons_succ]
  refine wpTill_take (i := 18) (v := .bool true) rfl (by kernel_rfl) (by kernel_rfl) (by kernel_rfl) (by kernel_rfl) (by kernel_rfl) (fun _ _ _ h => h) (Or.inl ⟨by kernel_rfl, fun w' hS => by obtain ⟨s0, s1, s2, s3, s4, s5, s6⟩ := hS; go_simp⟩) (hS3 (by decide)) ?_
  simp only [Act.put, List.setIfInBounds_toArray, List.set_cons_zero, List.set_cons_succ]
  refine wpTill_take (i := 19) (v := .bool true) rfl (by kernel_rfl) (by kernel_rfl) (by kernel_rfl) (by kernel_rfl) (by kernel_rfl) (fun _ _ _ h => h) (Or.inl ⟨by kernel_rfl, fun w' hS => by obtain ⟨s0, s1, s2, s3, s4, s5, s6⟩ := hS; go_simp⟩) (hS3 (by decide)) ?_
  simp only [Act.put, List.setIfInBounds_toArray, List.set_cons_zero, List.set_cons_succ]
  refine wpTill_take (i := 20) (v := .agg #[.int .i64 n, .slice a m c]) rfl (by kernel_rfl) (by kernel_rfl) (by kernel_rfl) (by kernel_rfl) (by kernel_rfl) (fun _ _ _ h => h) (Or.inl ⟨by kernel_rfl, fun w' hS => by obtain ⟨s0, s1, s2, s3, s4, s5, s6⟩ := hS; go_simp⟩) (hS3 (by decide)) ?_
  simp only [Act.put, List.setIfInBounds_toArray, List.set_cons_zero, List.set_cons_succ]
  refine wpTill_take (i := 21) (v := .int .i64 j) rfl (by kernel_rfl) (by kernel_rfl) (by kernel_rfl) (by kernel_rfl) (by kernel_rfl) (fun _ _ _ h => h) (Or.inl ⟨by kernel_rfl, fun w' hS => by obtain ⟨s0, s1, s2, s3, s4, s5, s6⟩ := hS; go_simp⟩) (hS3 (by decide)) ?_
  simp only [Act.put, List.setIfInBounds_toArray, List.set_cons_zero, List.set_cons_succ]
  refine wpTill_take (i := 23) (v := .int .i64 j) rfl (by kernel_rfl) (by kernel_rfl) (by kernel_rfl) (by kernel_rfl) (by kernel_rfl) (fun _ _ _ h => h) (Or.inl ⟨by kernel_rfl, fun w' hS => by obtain ⟨s0, s1, s2, s3, s4, s5, s6⟩ := hS; go_simp⟩) (hS3 (by decide)) ?_
  simp only [Act.put, List.setIfInBounds_toArray, List.set_cons_zero, List.set_cons_succ]
  refine wpTill_take (i := 24) (v := .bool false) rfl (by kernel_rfl) (by kernel_rfl) (by kernel_rfl) (by kernel_rfl) (by kernel_rfl) (fun _ _ _ h => h) (Or.inl ⟨by kernel_rfl, fun w' hS => by obtain ⟨s0, s1, s2, s3, s4, s5, s6⟩ := hS; go_simp⟩) (hS3 (by decide)) ?_
  simp only [Act.put, List.setIfInBounds_toArray, List.set_cons_zero, List.set_cons_succ]
  refine wpTill_one (i := 22) (by kernel_rfl) rfl (fun K hK => ?_)
  have HK := Lib.hid hK.out
  clear hK
  go_simp
  refine (HE.out _).mono ?_
  rintro e wk4 ⟨rfl, hB⟩
  have HX := Lib.hid (L2.on hB (hS3 (by decide)))
  clear hB
  refine HK.out _ _ (fun _ => HX.out) (fun hS4 => ?_)
  clear HK HX
  refine wpTill_take (i := 25) (v := .bool false) rfl (by kernel_rfl) (by kernel_rfl) (by kernel_rfl) (by kernel_rfl) (by kernel_rfl) (fun _ _ _ h => h) (Or.inl ⟨by kernel_rfl, fun w' hS => by obtain ⟨s0, s1, s2, s3, s4, s5, s6⟩ := hS; go_simp⟩) (hS4 (by decide)) ?_
  simp only [Act.put, List.setIfInBounds_toArray, List.set_cons_zero, List.set_cons_succ]
  refine wpTill_take (i := 26) (v := undef) rfl (by kernel_rfl) (by kernel_rfl) (by kernel_rfl) (by kernel_rfl) (by kernel_rfl) (fun _ _ _ h => h) (Or.inr ⟨by kernel_rfl, rfl⟩) (hS4 (by decide)) ?_
  simp only [Act.put, List.setIfInBounds_toArray, List.set_cons_zero, List.set_cons_succ]
  refine wpTill_take (i := 27) (v := undef) rfl (by kernel_rfl) (by kernel_rfl) (by kernel_rfl) (by kernel_rfl) (by kernel_rfl) (fun _ _ _ h => h) (Or.inr ⟨by kernel_rfl, rfl⟩) (hS4 (by decide)) ?_
  simp only [Act.put, List.setIfInBounds_toArray, List.set_cons_zero, List.set_cons_succ]
  refine wpTill_take (i := 28) (v := undef) rfl (by kernel_rfl) (by kernel_rfl) (by kernel_rfl) (by kernel_rfl) (by kernel_rfl) (fun _ _ _ h => h) (Or.inr ⟨by kernel_rfl, rfl⟩) (hS4 (by decide)) ?_
  simp only [Act.put, List.setIfInBounds_toArray, List.set_cons_zero, List.set_cons_succ]
  refine wpTill_take (i := 29) (v := undef) rfl (by kernel_rfl) (by kernel_rfl) (by kernel_rfl) (by kernel_rfl) (by kernel_rfl) (fun _ _ _ h => h) (Or.inr ⟨by kernel_rfl, rfl⟩) (hS4 (by decide)) ?_
  simp only [Act.put, List.setIfInBounds_toArray, List.set_cons_zero, List.set_cons_succ]
  refine wpTill_take (i := 30) (v := undef) rfl (by kernel_rfl) (by kernel_rfl) (by kernel_rfl) (by kernel_rfl) (by kernel_rfl) (fun _ _ _ h => h) (Or.inr ⟨by kernel_rfl, rfl⟩) (hS4 (by decide)) ?_
  simp only [Act.put, List.setIfInBounds_toArray, List.set_cons_zero, List.set_cons_succ]
  refine wpTill_take (i := 31) (v := .bool false) rfl (by kernel_rfl) (by kernel_rfl) (by kernel_rfl) (by kernel_rfl) (by kernel_rfl) (fun _ _ _ h => h) (Or.inl ⟨by kernel_rfl, fun w' hS => by obtain ⟨s0, s1, s2, s3, s4, s5, s6⟩ := hS; go_simp⟩) (hS4 (by decide)) ?_
  simp only [Act.put, List.setIfInBounds_toArray, List.set_cons_zero, List.set_cons_succ]
  refine wpTill_take (i := 32) (v := .bool true) rfl (by kernel_rfl) (by kernel_rfl) (by kernel_rfl) (by kernel_rfl) (by kernel_rfl) (fun _ _ _ h => h) (Or.inl ⟨by kernel_rfl, fun w' hS => by obtain ⟨s0, s1, s2, s3, s4, s5, s6⟩ := hS; go_simp⟩) (hS4 (by decide)) ?_
  simp only [Act.put, List.setIfInBounds_toArray, List.set_cons_zero, List.set_cons_succ]
  refine wpTill_take (i := 33) (v := .bool true) rfl (by kernel_rfl) (by kernel_rfl) (by kernel_rfl) (by kernel_rfl) (by kernel_rfl) (fun _ _ _ h => h) (Or.inl ⟨by kernel_rfl, fun w' hS => by obtain ⟨s0, s1, s2, s3, s4, s5, s6⟩ := hS; go_simp⟩) (hS4 (by decide)) ?_
  simp only [Act.put, List.setIfInBounds_toArray, List.set_cons_zero, List.set_cons_succ]
  refine wpTill_take (i := 34) (v := .bool true) rfl (by kernel_rfl) (by kernel_rfl) (by kernel_rfl) (by kernel_rfl) (by kernel_rfl) (fun _ _ _ h => h) (Or.inl ⟨by kernel_rfl, fun w' hS => by obtain ⟨s0, s1, s2, s3, s4, s5, s6⟩ := hS; go_simp⟩) (hS4 (by decide)) ?_
  simp only [Act.put, List.setIfInBounds_toArray, List.set_cons_zero, List.set_cons_succ]
  refine wpTill_take (i := 35) (v := .agg #[.int .i64 n, .slice a m c]) rfl (by kernel_rfl) (by kernel_rfl) (by kernel_rfl) (by kernel_rfl) (by kernel_rfl) (fun _ _ _ h => h) (Or.inl ⟨by kernel_rfl, fun w' hS => by obtain ⟨s0, s1, s2, s3, s4, s5, s6⟩ := hS; go_simp⟩) (hS4 (by decide)) ?_
  simp only [Act.put, List.setIfInBounds_toArray, List.set_cons_zero, List.set_cons_succ]
  refine wpTill_take (i := 36) (v := .agg #[.int .i64 n2, .slice a2 m2 c2]) rfl (by kernel_rfl) (by kernel_rfl) (by kernel_rfl) (by kernel_rfl) (by kernel_rfl) (fun _ _ _ h => h) (Or.inl ⟨by kernel_rfl, fun w' hS => by obtain ⟨s0, s1, s2, s3, s4, s5, s6⟩ := hS; go_simp⟩) (hS4 (by decide)) ?_
  simp only [Act.put, List.setIfInBounds_toArray, List.set_cons_zero, List.set_cons_succ]
  refine wpTill_take (i := 38) (v := .agg #[.int .i64 n, .slice a m c]) rfl (by kernel_rfl) (by kernel_rfl) (by kernel_rfl) (by kernel_rfl) (by kernel_rfl) (fun _ _ _ h => h) (Or.inl ⟨by kernel_rfl, fun w' hS => by obtain ⟨s0, s1, s2, s3, s4, s5, s6⟩ := hS; go_simp⟩) (hS4 (by decide)) ?_
  simp only [Act.put, List.setIfInBounds_toArray, List.set_cons_zero, List.set_cons_succ]
  refine wpTill_take (i := 39) (v := .agg #[.int .i64 n2, .slice a2 m2 c2]) rfl (by kernel_rfl) (by kernel_rfl) (by kernel_rfl) (by kernel_rfl) (by kernel_rfl) (fun _ _ _ h => h) (Or.inl ⟨by kernel_rfl, fun w' hS => by obtain ⟨s0, s1, s2, s3, s4, s5, s6⟩ := hS; go_simp⟩) (hS4 (by decide)) ?_
  simp only [Act.put, List.setIfInBounds_toArray, List.set_cons_zero, List.set_cons_succ]
  refine wpTill_one (i := 37) (by kernel_rfl) rfl (fun K hK => ?_)
  have HK := Lib.hid hK.out
  clear hK
  go_simp
  refine (HS1.out _ (hS4 (by decide)).2.2.2.2.1.out (hS4 (by decide)).2.2.2.2.2.1.out).mono ?_
  rintro e wk5 ⟨rfl, hB⟩
  have HX := Lib.hid (L2.on hB (hS4 (by decide)))
  clear hB
  refine HK.out _ _ (fun _ => HX.out) (fun hS5 => ?_)
  clear HK HX
  refine wpTill_one (i := 40) (by kernel_rfl) rfl (fun K hK => ?_)
  have HK := Lib.hid hK.out
  clear hK
  go_simp
  refine (HS2.out _ (hS5 (by decide)).2.2.2.2.1.out (hS5 (by decide)).2.2.2.2.2.1.out).mono ?_
  rintro e wk6 ⟨rfl, hB⟩
  have HX := Lib.hid (L2.on hB (hS5 (by decide)))
  clear hB
  refine HK.out _ _ (fun _ => HX.out) (fun hS6 => ?_)
  clear HK HX
  refine wpTill_take (i := 41) (v := .bool true) rfl (by kernel_rfl) (by kernel_rfl) (by kernel_rfl) (by kernel_rfl) (by kernel_rfl) (fun _ _ _ h => h) (Or.inl ⟨by kernel_rfl, fun w' hS => by obtain ⟨s0, s1, s2, s3, s4, s5, s6⟩ := hS; go_simp⟩) (hS6 (by decide)) ?_
  simp only [Act.put, List.setIfInBounds_toArray, List.set_cons_zero, List.set_cons_succ]
  refine wpTill_take (i := 42) (v := .bool true) rfl (by kernel_rfl) (by kernel_rfl) (by kernel_rfl) (by kernel_rfl) (by kernel_rfl) (fun _ _ _ h => h) (Or.inl ⟨by kernel_rfl, fun w' hS => by obtain ⟨s0, s1, s2, s3, s4, s5, s6⟩ := hS; go_simp⟩) (hS6 (by decide)) ?_
  simp only [Act.put, List.setIfInBounds_toArray, List.set_cons_zero, List.set_cons_succ]
  refine wpTill_take (i := 43) (v := .bool true) rfl (by kernel_rfl) (by kernel_rfl) (by kernel_rfl) (by kernel_rfl) (by kernel_rfl) (fun _ _ _ h => h) (Or.inl ⟨by kernel_rfl, fun w' hS => by obtain ⟨s0, s1, s2, s3, s4, s5, s6⟩ := hS; go_simp⟩) (hS6 (by decide)) ?_
  simp only [Act.put, List.setIfInBounds_toArray, List.set_cons_zero, List.set_cons_succ]
  refine wpTill_take (i := 44) (v := .agg #[.int .i64 n, .slice a m c]) rfl (by kernel_rfl) (by kernel_rfl) (by kernel_rfl) (by kernel_rfl) (by kernel_rfl) (fun _ _ _ h => h) (Or.inl ⟨by kernel_rfl, fun w' hS => by obtain ⟨s0, s1, s2, s3, s4, s5, s6⟩ := hS; go_simp⟩) (hS6 (by decide)) ?_
  simp only [Act.put, List.setIfInBounds_toArray, List.set_cons_zero, List.set_cons_succ]
  refine wpTill_take (i := 46) (v := .agg #[.int .i64 n, .slice a m c]) rfl (by kernel_rfl) (by kernel_rfl) (by kernel_rfl) (by kernel_rfl) (by kernel_rfl) (fun _ _ _ h => h) (Or.inl ⟨by kernel_rfl, fun w' hS => by obtain ⟨s0, s1, s2, s3, s4, s5, s6⟩ := hS; go_simp⟩) (hS6 (by decide)) ?_
  simp only [Act.put, List.setIfInBounds_toArray, List.set_cons_zero, List.set_cons_succ]
  refine wpTill_one (i := 45) (by kernel_rfl) rfl (fun K hK => ?_)
  have HK := Lib.hid hK.out
  clear hK
  go_simp
  refine (HC.out _ (hS6 (by decide)).2.2.2.2.1.out).mono ?_
  rintro e wk7 ⟨vC, rfl, hE, hB⟩
  have HX := Lib.hid (L2.on hB (hS6 (by decide)))
  have HCE := Lib.hid hE; clear hE
  clear hB
  refine HK.out _ _ (fun _ => HX.out) (fun hS7 => ?_)
  clear HK HX
  refine wpTill_one (i := 47) (by kernel_rfl) rfl (fun K hK => ?_)
  have HK := Lib.hid hK.out
  clear hK
  go_simp
  refine (HS3.out _ _ HCE.out (hS7 (by decide)).2.2.2.2.1.out).mono ?_
  rintro e wk8 ⟨rfl, hB⟩
  have HX := Lib.hid (L2.on hB (hS7 (by decide)))
  clear hB
  refine HK.out _ _ (fun _ => HX.out) (fun hS8 => ?_)
  clear HK HX
  refine wpTill_take (i := 48) (v := .bool true) rfl (by kernel_rfl) (by kernel_rfl) (by kernel_rfl) (by kernel_rfl) (by kernel_rfl) (fun _ _ _ h => h) (Or.inl ⟨by kernel_rfl, fun w' hS => by obtain ⟨s0, s1, s2, s3, s4, s5, s6⟩ := hS; go_simp⟩) (hS8 (by decide)) ?_
  simp only [Act.put, List.setIfInBounds_toArray, List.set_cons_zero, List.set_cons_succ]
  refine wpTill_take (i := 49) (v := .bool true) rfl (by kernel_rfl) (by kernel_rfl) (by kernel_rfl) (by kernel_rfl) (by kernel_rfl) (fun _ _ _ h => h) (Or.inl ⟨by kernel_rfl, fun w' hS => by obtain ⟨s0, s1, s2, s3, s4, s5, s6⟩ := hS; go_simp⟩) (hS8 (by decide)) ?_
  simp only [Act.put, List.setIfInBounds_toArray, List.set_cons_zero, List.set_cons_succ]
  refine wpTill_one (i := 50) (by kernel_rfl) rfl (fun K hK => ?_)
  have HK := Lib.hid hK.out
  clear hK
  go_simp
  refine (HA.out _).mono ?_
  rintro e wk9 ⟨rfl, hB⟩
  have HX := Lib.hid (L2.on hB (hS8 (by decide)))
  clear hB
  refine HK.out _ _ (fun _ => HX.out) (fun hS9 => ?_)
  clear HK HX
  refine wpTill_take (i := 51) (v := .bool true) rfl (by kernel_rfl) (by kernel_rfl) (by kernel_rfl) (by kernel_rfl) (by kernel_rfl) (fun _ _ _ h => h) (Or.inl ⟨by kernel_rfl, fun w' hS => by obtain ⟨s0, s1, s2, s3, s4, s5, s6⟩ := hS; go_simp⟩) (hS9 (by decide)) ?_
  simp only [Act.put, List.setIfInBounds_toArray, List.set_cons_zero, List.set_cons_succ]
  have HZ := (hS9 (by decide)).2.2.2.2.2.2
  refine wpTill_one (i := 52) (by kernel_rfl) rfl (fun K hK => ?_)
  have HK := Lib.hid hK.out
  clear hK
  go_simp
  refine HK.out _ _ (fun h => absurd rfl h) (fun _ => ?_)
  clear HK
  refine wpTill_done (by kernel_rfl) ?_ _
  go_wp2
  go_ret
  exact ⟨rfl, HZ.out⟩
set_option maxHeartbeats 8000000 in
theorem looks_nn (G : GSpec) (n n2 i j : Int) (es es2 : List Ed) (a a2 : Option Addr) (m c m2 c2 : Nat) (hm : es.length = m) (hm2 : es2.length = m2) (hl : lightB n m = true) (hl2 : lightB n2 m2 = true) (hi : i < 0) (hj : j < 0) (w : World) (hE : EdgesAt w (.slice a m c) es) (hE2 : EdgesAt w (.slice a2 m2 c2) es2) :
    Calls Try.prog 3 #[.agg #[.int .i64 n, .slice a m c], .agg #[.int .i64 n2, .slice a2 m2 c2], .int .i64 i, .int .i64 j] w fun e w' => e = .returned (.bool true) ∧ Below w.heap.size w w' := by
  have hm3 : m ≤ 300 := by unfold lightB at hl; simp at hl; exact hl.2
  have HL := Lib.hid (fun W => light_any n a m c W)
  rw [hl] at HL
  have HLb := Lib.hid (fun W => light_any n2 a2 m2 c2 W)
  rw [hl2] at HLb
  have HA := Lib.hid (fun W => galive_any G W)
  have HR1 := Lib.hid (fun W h => G.right n (.slice a m c) es W h)
  have HR2 := Lib.hid (fun W (h : EdgesAt W (.slice a m c) es) => rright_any n W h)
  have HN := Lib.hid (fun W => G.node n (.slice a m c) i W)
  have HE := Lib.hid (fun W => G.edge n a m c j W)
  have HS1 := Lib.hid (fun W h1 h2 => G.same n n2 (.slice a m c) (.slice a2 m2 c2) es es2 W (by omega) h1 h2)
  have HS2 := Lib.hid (fun W (h1 : EdgesAt W (.slice a m c) es) (h2 : EdgesAt W (.slice a2 m2 c2) es2) => gsame_any n n2 (by omega) W h1 h2)
  have HC := Lib.hid (fun W h => G.clone n (.slice a m c) es W (by omega) h)
  have HS3 := Lib.hid (fun W v (h1 : EdgesAt W v es) (h2 : EdgesAt W (.slice a m c) es) => gsame_any n n (by omega) W h1 h2)
  rw [decide_eq_true ⟨rfl, rfl⟩] at HS3
  rw [show nodeB n i = false from by unfold nodeB; simp [hi] <;> omega] at HN
  rw [show nodeB (m : Int) j = false from by unfold nodeB; simp [hj] <;> omega] at HE
  generalize rightF n es = RF at HR1 HR2
  generalize decide (n = n2 ∧ es = es2) = SB at HS1 HS2
  have hB0 := ((Below.refl w.heap.size w).alloc (Nat.le_refl _) (.cells #[.int .i64 n, .slice a m c] 24)).alloc (by simp) (.cells #[.int .i64 n2, .slice a2 m2 c2] 24)
  have HLS : Hid (L2 w w.heap.size n n2 (.slice a m c) (.slice a2 m2 c2) es es2 ((w.alloc (.cells #[.int .i64 n, .slice a m c] 24)).alloc (.cells #[.int .i64 n2, .slice a2 m2 c2] 24))) := Lib.hid ⟨by simp, by simp, by simp, by simp, Lib.hid (hE.on hB0), Lib.hid (hE2.on hB0), Lib.hid hB0⟩
  clear hB0 hE hE2 hm hm2
  go_enter Try.func3, Try.ntmps3
  go_wp2_with (first
    | (go_at_call 7; refine (HL.out _).mono ?_; rintro e w1 ⟨rfl, hB⟩; have HLS := Lib.hid (HLS.out.on hB); have b0 := HLS.out.1; have b1 := HLS.out.2.1; have b2 := HLS.out.2.2.1; have b3 := HLS.out.2.2.2.1; clear hB HL)
    | (go_at_call 7; refine (HLb.out _).mono ?_; rintro e w2 ⟨rfl, hB⟩; have HLS := Lib.hid (HLS.out.on hB); clear b0 b1 b2 b3; clear hB HLb))
  have HL2 := HLS.out
  clear HLS
  refine region_till (fun w' => w'.cell? ⟨w.heap.size, 0, none⟩ = some (.int .i64 n) ∧ w'.cell? ⟨w.heap.size, 1, none⟩ = some (.slice a m c) ∧ w'.cell? ⟨w.heap.size + 1, 0, none⟩ = some (.int .i64 n2) ∧ w'.cell? ⟨w.heap.size + 1, 1, none⟩ = some (.slice a2 m2 c2) ∧ Hid (EdgesAt w' (.slice a m c) es) ∧ Hid (EdgesAt w' (.slice a2 m2 c2) es2) ∧ Hid (Below w.heap.size w w')) 52 (by kernel_rfl) (L2.on (Below.refl _ _).drew HL2) (fun hS0 => ?_)
  refine wpTill_take (i := 0) (v := .agg #[.int .i64 n, .slice a m c]) rfl (by kernel_rfl) (by kernel_rfl) (by kernel_rfl) (by kernel_rfl) (by kernel_rfl) (fun _ _ _ h => h) (Or.inl ⟨by kernel_rfl, fun w' hS => by obtain ⟨s0, s1, s2, s3, s4, s5, s6⟩ := hS; go_simp⟩) hS0 ?_
  simp only [Act.put, List.setIfInBounds_toArray, List.set_cons_zero, List.set_cons_succ]
  refine wpTill_take (i := 2) (v := .agg #[.int .i64 n, .slice a m c]) rfl (by kernel_rfl) (by kernel_rfl) (by kernel_rfl) (by kernel_rfl) (by kernel_rfl) (fun _ _ _ h => h) (Or.inl ⟨by kernel_rfl, fun w' hS => by obtain ⟨s0, s1, s2, s3, s4, s5, s6⟩ := hS; go_simp⟩) hS0 ?_
  simp only [Act.put, List.setIfInBounds_toArray, List.set_cons_zero, List.set_cons_succ]
  refine wpTill_one (i := 1) (by kernel_rfl) rfl (fun K hK => ?_)
  have HK := Lib.hid hK.out
  clear hK
  go_simp
  refine (HR1.out _ hS0.2.2.2.2.1.out).mono ?_
  rintro e wk1 ⟨rfl, hB⟩
  have HX := Lib.hid (L2.on hB hS0)
  clear hB
  refine HK.out _ _ (fun _ => HX.out) (fun hS1 => ?_)
  clear HK HX
  refine wpTill_one (i := 3) (by kernel_rfl) rfl (fun K hK => ?_)
  have HK := Lib.hid hK.out
  clear hK
  go_simp
  refine (HR2.out _ (hS1 (by decide)).2.2.2.2.1.out).mono ?_
  rintro e wk2 ⟨rfl, hB⟩
  have HX := Lib.hid (L2.on hB (hS1 (by decide)))
  clear hB
  refine HK.out _ _ (fun _ => HX.out) (fun hS2 => ?_)
  clear HK HX
  refine wpTill_take (i := 4) (v := .bool true) rfl (by kernel_rfl) (by kernel_rfl) (by kernel_rfl) (by kernel_rfl) (by kernel_rfl) (fun _ _ _ h => h) (Or.inl ⟨by kernel_rfl, fun w' hS => by obtain ⟨s0, s1, s2, s3, s4, s5, s6⟩ := hS; go_simp⟩) (hS2 (by decide)) ?_
  simp only [Act.put, List.setIfInBounds_toArray, List.set_cons_zero, List.set_cons_succ]
  refine wpTill_take (i := 5) (v := .bool true) rfl (by kernel_rfl) (by kernel_rfl) (by kernel_rfl) (by kernel_rfl) (by kernel_rfl) (fun _ _ _ h => h) (Or.inl ⟨by kernel_rfl, fun w' hS => by obtain ⟨s0, s1, s2, s3, s4, s5, s6⟩ := hS; go_simp⟩) (hS2 (by decide)) ?_
  simp only [Act.put, List.setIfInBounds_toArray, List.set_cons_zero, List.set_cons_succ]
  refine wpTill_take (i := 6) (v := .agg #[.int .i64 n, .slice a m c]) rfl (by kernel_rfl) (by kernel_rfl) (by kernel_rfl) (by kernel_rfl) (by kernel_rfl) (fun _ _ _ h => h) (Or.inl ⟨by kernel_rfl, fun w' hS => by obtain ⟨s0, s1, s2, s3, s4, s5, s6⟩ := hS; go_simp⟩) (hS2 (by decide)) ?_
  simp only [Act.put, List.setIfInBounds_toArray, List.set_cons_zero, List.set_cons_succ]
  refine wpTill_take (i := 7) (v := .int .i64 i) rfl (by kernel_rfl) (by kernel_rfl) (by kernel_rfl) (by kernel_rfl) (by kernel_rfl) (fun _ _ _ h => h) (Or.inl ⟨by kernel_rfl, fun w' hS => by obtain ⟨s0, s1, s2, s3, s4, s5, s6⟩ := hS; go_simp⟩) (hS2 (by decide)) ?_
  simp only [Act.put, List.setIfInBounds_toArray, List.set_cons_zero, List.set_cons_succ]
  refine wpTill_take (i := 9) (v := .int .i64 i) rfl (by kernel_rfl) (by kernel_rfl) (by kernel_rfl) (by kernel_rfl) (by kernel_rfl) (fun _ _ _ h => h) (Or.inl ⟨by kernel_rfl, fun w' hS => by obtain ⟨s0, s1, s2, s3, s4, s5, s6⟩ := hS; go_simp⟩) (hS2 (by decide)) ?_
  simp only [Act.put, List.setIfInBounds_toArray, List.set_cons_zero, List.set_cons_succ]
  refine wpTill_take (i := 10) (v := .bool false) rfl (by kernel_rfl) (by kernel_rfl) (by kernel_rfl) (by kernel_rfl) (by kernel_rfl) (fun _ _ _ h => h) (Or.inl ⟨by kernel_rfl, fun w' hS => by obtain ⟨s0, s1, s2, s3, s4, s5, s6⟩ := hS; go_simp⟩) (hS2 (by decide)) ?_
  simp only [Act.put, List.setIfInBounds_toArray, List.set_cons_zero, List.set_cons_succ]
  refine wpTill_one (i := 8) (by kernel_rfl) rfl (fun K hK => ?_)
  have HK := Lib.hid hK.out
  clear hK
  go_simp
  refine (HN.out _).mono ?_
  rintro e wk3 ⟨rfl, hB⟩
  have HX := Lib.hid (L2.on hB (hS2 (by decide)))
  clear hB
  refine HK.out _ _ (fun _ => HX.out) (fun hS3 => ?_)
  clear HK HX
  refine wpTill_take (i := 11) (v := .bool false) rfl (by kernel_rfl) (by kernel_rfl) (by kernel_rfl) (by kernel_rfl) (by kernel_rfl) (fun _ _ _ h => h) (Or.inl ⟨by kernel_rfl, fun w' hS => by obtain ⟨s0, s1, s2, s3, s4, s5, s6⟩ := hS; go_simp⟩) (hS3 (by decide)) ?_
  simp only [Act.put, List.setIfInBounds_toArray, List.set_cons_zero, List.set_cons_succ]
  refine wpTill_take (i := 12) (v := undef) rfl (by kernel_rfl) (by kernel_rfl) (by kernel_rfl) (by kernel_rfl) (by kernel_rfl) (fun _ _ _ h => h) (Or.inr ⟨by kernel_rfl, rfl⟩) (hS3 (by decide)) ?_
  simp only [Act.put, List.setIfInBounds_toArray, List.set_cons_zero, List.set_cons_succ]
  refine wpTill_take (i := 13) (v := undef) rfl (by kernel_rfl) (by kernel_rfl) (by kernel_rfl) (by kernel_rfl) (by kernel_rfl) (fun _ _ _ h => h) (Or.inr ⟨by kernel_rfl, rfl⟩) (hS3 (by decide)) ?_
  simp only [Act.put, List.setIfInBounds_toArray, List.set_cons_zero, List.set_cons_succ]
  refine wpTill_take (i := 14) (v := undef) rfl (by kernel_rfl) (by kernel_rfl) (by kernel_rfl) (by kernel_rfl) (by kernel_rfl) (fun _ _ _ h => h) (Or.inr ⟨by kernel_rfl, rfl⟩) (hS3 (by decide)) ?_
  simp only [Act.put, List.setIfInBounds_toArray, List.set_cons_zero, List.set_cons_succ]
  refine wpTill_take (i := 15) (v := undef) rfl (by kernel_rfl) (by kernel_rfl) (by kernel_rfl) (by kernel_rfl) (by kernel_rfl) (fun _ _ _ h => h) (Or.inr ⟨by kernel_rfl, rfl⟩) (hS3 (by decide)) ?_
  simp only [Act.put, List.setIfInBounds_toArray, List.set_cons_zero, List.set_cons_succ]
  refine wpTill_take (i := 16) (v := .bool false) rfl (by kernel_rfl) (by kernel_rfl) (by kernel_rfl) (by kernel_rfl) (by kernel_rfl) (fun _ _ _ h => h) (Or.inl ⟨by kernel_rfl, fun w' hS => by obtain ⟨s0, s1, s2, s3, s4, s5, s6⟩ := hS; go_simp⟩) (hS3 (by decide)) ?_
  simp only [Act.put, List.setIfInBounds_toArray, List.set_cons_zero, List.set_cons_succ]
  refine wpTill_take (i := 17) (v := .bool true) rfl (by kernel_rfl) (by kernel_rfl) (by kernel_rfl) (by kernel_rfl) (by kernel_rfl) (fun _ _ _ h => h) (Or.inl ⟨by kernel_rfl, fun w' hS => by obtain ⟨s0, s1, s2, s3, s4, s5, s6⟩ := hS; go_simp⟩) (hS3 (by decide)) ?_
  simp only [Act.put, List.setIfInBounds_toArray, List.set_cons_zero, List.set_cons_succ]
  refine wpTill_take (i := 18) (v := .bool true) rfl (by kernel_rfl) (by kernel_rfl) (by kernel_rfl) (by kernel_rfl) (by kernel_rfl) (fun _ _ _ h => h) (Or.inl ⟨by kernel_rfl, fun w' hS => by obtain ⟨s0, s1, s2, s3, s4, s5, s6⟩ := hS; go_simp⟩) (hS3 (by decide)) ?_
  simp only [Act.put, List.setIfInBounds_toArray, List.set_cons_zero, List.set_cons_succ]
  refine wpTill_take (i := 19) (v := .bool true) rfl (by kernel_rfl) (by kernel_rfl) (by kernel_rfl) (by kernel_rfl) (by kernel_rfl) (fun _ _ _ h => h) (Or.inl ⟨by kernel_rfl, fun w' hS => by obtain ⟨s0, s1, s2, s3, s4, s5, s6⟩ := hS; go_simp⟩) (hS3 (by decide)) ?_
  simp only [Act.put, List.setIfInBounds_toArray, List.set_cons_zero, List.set_cons_succ]
  refine wpTill_take (i := 20) (v := .agg #[.int .i64 n, .slice a m c]) rfl (by kernel_rfl) (by kernel_rfl) (by kernel_rfl) (by kernel_rfl) (by kernel_rfl) (fun _ _ _ h => h) (Or.inl ⟨by kernel_rfl, fun w' hS => by obtain ⟨s0, s1, s2, s3, s4, s5, s6⟩ := hS; go_simp⟩) (hS3 (by decide)) ?_
  simp only [Act.put, List.setIfInBounds_toArray, List.set_cons_zero, List.set_cons_succ]
  refine wpTill_take (i := 21) (v := .int .i64 j) rfl (by kernel_rfl) (by kernel_rfl) (by kernel_rfl) (by kernel_rfl) (by kernel_rfl) (fun _ _ _ h => h) (Or.inl ⟨by kernel_rfl, fun w' hS => by obtain ⟨s0, s1, s2, s3, s4, s5, s6⟩ := hS; go_simp⟩) (hS3 (by decide)) ?_
  simp only [Act.put, List.setIfInBounds_toArray, List.set_cons_zero, List.set_cons_succ]
  refine wpTill_take (i := 23) (v := .int .i64 j) rfl (by kernel_rfl) (by kernel_rfl) (by kernel_rfl) (by kernel_rfl) (by kernel_rfl) (fun _ _ _ h => h) (Or.inl ⟨by kernel_rfl, fun w' hS => by obtain ⟨s0, s1, s2, s3, s4, s5, s6⟩ := hS; go_simp⟩) (hS3 (by decide)) ?_
  simp only [Act.put, List.setIfInBounds_toArray, List.set_cons_zero, List.set_cons_succ]
  refine wpTill_take (i := 24) (v := .bool false) rfl (by kernel_rfl) (by kernel_rfl) (by kernel_rfl) (by kernel_rfl) (by kernel_rfl) (fun _ _ _ h => h) (Or.inl ⟨by kernel_rfl, fun w' hS => by obtain ⟨s0, s1, s2, s3, s4, s5, s6⟩ := hS; go_simp⟩) (hS3 (by decide)) ?_
  simp only [Act.put, List.setIfInBounds_toArray, List.set_cons_zero, List.set_cons_succ]
  refine wpTill_one (i := 22) (by kernel_rfl) rfl (fun K hK => ?_)
  have HK := Lib.hid hK.out
  clear hK
  go_simp
  refine (HE.out _).mono ?_
  rintro e wk4 ⟨rfl, hB⟩
  have HX := Lib.hid (L2.on hB (hS3 (by decide)))
  clear hB
  refine HK.out _ _ (fun _ => HX.out) (fun hS4 => ?_)
  clear HK HX
  refine wpTill_take (i := 25) (v := .bool false) rfl (by kernel_rfl) (by kernel_rfl) (by kernel_rfl) (by kernel_rfl) (by kernel_rfl) (fun _ _ _ h => h) (Or.inl ⟨by kernel_rfl, fun w' hS => by obtain ⟨s0, s1, s2, s3, s4, s5, s6⟩ := hS; go_simp⟩) (hS4 (by decide)) ?_
  simp only [Act.put, List.setIfInBounds_toArray, List.set_cons_zero, List.set_cons_succ]
  refine wpTill_take (i := 26) (v := undef) rfl (by kernel_rfl) (by kernel_rfl) (by kernel_rfl) (by kernel_rfl) (by kernel_rfl) (fun _ _ _ h => h) (Or.inr ⟨by kernel_rfl, rfl⟩) (hS4 (by decide)) ?_
  simp only [Act.put, List.setIfInBounds_toArray, List.set_cons_zero, List.set_cons_succ]
  refine wpTill_take (i := 27) (v := undef) rfl (by kernel_rfl) (by kernel_rfl) (by kernel_rfl) (by kernel_rfl) (by kernel_rfl) (fun _ _ _ h => h) (Or.inr ⟨by kernel_rfl, rfl⟩) (hS4 (by decide)) ?_
  simp only [Act.put, List.setIfInBounds_toArray, List.set_cons_zero, List.set_cons_succ]
  refine wpTill_take (i := 28) (v := undef) rfl (by kernel_rfl) (by kernel_rfl) (by kernel_rfl) (by kernel_rfl) (by kernel_rfl) (fun _ _ _ h => h) (Or.inr ⟨by kernel_rfl, rfl⟩) (hS4 (by decide)) ?_
  simp only [Act.put, List.setIfInBounds_toArray, List.set_cons_zero, List.set_cons_succ]
  refine wpTill_take (i := 29) (v := undef) rfl (by kernel_rfl) (by kernel_rfl) (by kernel_rfl) (by kernel_rfl) (by kernel_rfl) (fun _ _ _ h => h) (Or.inr ⟨by kernel_rfl, rfl⟩) (hS4 (by decide)) ?_
  simp only [Act.put, List.setIfInBounds_toArray, List.set_cons_zero, List.set_cons_succ]
  refine wpTill_take (i := 30) (v := undef) rfl (by kernel_rfl) (by kernel_rfl) (by kernel_rfl) (by kernel_rfl) (by kernel_rfl) (fun _ _ _ h => h) (Or.inr ⟨by kernel_rfl, rfl⟩) (hS4 (by decide)) ?_
  simp only [Act.put, List.setIfInBounds_toArray, List.set_cons_zero, List.set_cons_succ]
  refine wpTill_take (i := 31) (v := .bool false) rfl (by kernel_rfl) (by kernel_rfl) (by kernel_rfl) (by kernel_rfl) (by kernel_rfl) (fun _ _ _ h => h) (Or.inl ⟨by kernel_rfl, fun w' hS => by obtain ⟨s0, s1, s2, s3, s4, s5, s6⟩ := hS; go_simp⟩) (hS4 (by decide)) ?_
  simp only [Act.put, List.setIfInBounds_toArray, List.set_cons_zero, List.set_cons_succ]
  refine wpTill_take (i := 32) (v := .bool true) rfl (by kernel_rfl) (by kernel_rfl) (by kernel_rfl) (by kernel_rfl) (by kernel_rfl) (fun _ _ _ h => h) (Or.inl ⟨by kernel_rfl, fun w' hS => by obtain ⟨s0, s1, s2, s3, s4, s5, s6⟩ := hS; go_simp⟩) (hS4 (by decide)) ?_
  simp only [Act.put, List.setIfInBounds_toArray, List.set_cons_zero, List.set_cons_succ]
  refine wpTill_take (i := 33) (v := .bool true) rfl (by kernel_rfl) (by kernel_rfl) (by kernel_rfl) (by kernel_rfl) (by kernel_rfl) (fun _ _ _ h => h) (Or.inl ⟨by kernel_rfl, fun w' hS => by obtain ⟨s0, s1, s2, s3, s4, s5, s6⟩ := hS; go_simp⟩) (hS4 (by decide)) ?_
  simp only [Act.put, List.setIfInBounds_toArray, List.set_cons_zero, List.set_cons_succ]
  refine wpTill_take (i := 34) (v := .bool true) rfl (by kernel_rfl) (by kernel_rfl) (by kernel_rfl) (by kernel_rfl) (by kernel_rfl) (fun _ _ _ h => h) (Or.inl ⟨by kernel_rfl, fun w' hS => by obtain ⟨s0, s1, s2, s3, s4, s5, s6⟩ := hS; go_simp⟩) (hS4 (by decide)) ?_
  simp only [Act.put, List.setIfInBounds_toArray, List.set_cons_zero, List.set_cons_succ]
  refine wpTill_take (i := 35) (v := .agg #[.int .i64 n, .slice a m c]) rfl (by kernel_rfl) (by kernel_rfl) (by kernel_rfl) (by kernel_rfl) (by kernel_rfl) (fun _ _ _ h => h) (Or.inl ⟨by kernel_rfl, fun w' hS => by obtain ⟨s0, s1, s2, s3, s4, s5, s6⟩ := hS; go_simp⟩) (hS4 (by decide)) ?_
  simp only [Act.put, List.setIfInBounds_toArray, List.set_cons_zero, List.set_cons_succ]
  refine wpTill_take (i := 36) (v := .agg #[.int .i64 n2, .slice a2 m2 c2]) rfl (by kernel_rfl) (by kernel_rfl) (by kernel_rfl) (by kernel_rfl) (by kernel_rfl) (fun _ _ _ h => h) (Or.inl ⟨by kernel_rfl, fun w' hS => by obtain ⟨s0, s1, s2, s3, s4, s5, s6⟩ := hS; go_simp⟩) (hS4 (by decide)) ?_
  simp only [Act.put, List.setIfInBounds_toArray, List.set_cons_zero, List.set_cons_succ]
  refine wpTill_take (i := 38) (v := .agg #[.int .i64 n, .slice a m c]) rfl (by kernel_rfl) (by kernel_rfl) (by kernel_rfl) (by kernel_rfl) (by kernel_rfl) (fun _ _ _ h => h) (Or.inl ⟨by kernel_rfl, fun w' hS => by obtain ⟨s0, s1, s2, s3, s4, s5, s6⟩ := hS; go_simp⟩) (hS4 (by decide)) ?_
  simp only [Act.put, List.setIfInBounds_toArray, List.set_cons_zero, List.set_cons_succ]
  refine wpTill_take (i := 39) (v := .agg #[.int .i64 n2, .slice a2 m2 c2]) rfl (by kernel_rfl) (by kernel_rfl) (by kernel_rfl) (by kernel_rfl) (by kernel_rfl) (fun _ _ _ h => h) (Or.inl ⟨by kernel_rfl, fun w' hS => by obtain ⟨s0, s1, s2, s3, s4, s5, s6⟩ := hS; go_simp⟩) (hS4 (by decide)) ?_
  simp only [Act.put, List.setIfInBounds_toArray, List.set_cons_zero, List.set_cons_succ]
  refine wpTill_one (i := 37) (by kernel_rfl) rfl (fun K hK => ?_)
  have HK := Lib.hid hK.out
  clear hK
  go_simp
  refine (HS1.out _ (hS4 (by decide)).2.2.2.2.1.out (hS4 (by decide)).2.2.2.2.2.1.out).mono ?_
  rintro e wk5 ⟨rfl, hB⟩
  have HX := Lib.hid (L2.on hB (hS4 (by decide)))
  clear hB
  refine HK.out _ _ (fun _ => HX.out) (fun hS5 => ?_)
  clear HK HX
  refine wpTill_one (i := 40) (by kernel_rfl) rfl (fun K hK => ?_)
  have HK := Lib.hid hK.out
  clear hK
  go_simp
  refine (HS2.out _ (hS5 (by decide)).2.2.2.2.1.out (hS5 (by decide)).2.2.2.2.2.1.out).mono ?_
  rintro e wk6 ⟨rfl, hB⟩
  have HX := Lib.hid (L2.on hB (hS5 (by decide)))
  clear hB
  refine HK.out _ _ (fun _ => HX.out) (fun hS6 => ?_)
  clear HK HX
  refine wpTill_take (i := 41) (v := .bool true) rfl (by kernel_rfl) (by kernel_rfl) (by kernel_rfl) (by kernel_rfl) (by kernel_rfl) (fun _ _ _ h => h) (Or.inl ⟨by kernel_rfl, fun w' hS => by obtain ⟨s0, s1, s2, s3, s4, s5, s6⟩ := hS; go_simp⟩) (hS6 (by decide)) ?_
  simp only [Act.put, List.setIfInBounds_toArray, List.set_cons_zero, List.set_cons_succ]
  refine wpTill_take (i := 42) (v := .bool true) rfl (by kernel_rfl) (by kernel_rfl) (by kernel_rfl) (by kernel_rfl) (by kernel_rfl) (fun _ _ _ h => h) (Or.inl ⟨by kernel_rfl, fun w' hS => by obtain ⟨s0, s1, s2, s3, s4, s5, s6⟩ := hS; go_simp⟩) (hS6 (by decide)) ?_
  simp only [Act.put, List.setIfInBounds_toArray, List.set_cons_zero, List.set_cons_succ]
  refine wpTill_take (i := 43) (v := .bool true) rfl (by kernel_rfl) (by kernel_rfl) (by kernel_rfl) (by kernel_rfl) (by kernel_rfl) (fun _ _ _ h => h) (Or.inl ⟨by kernel_rfl, fun w' hS => by obtain ⟨s0, s1, s2, s3, s4, s5, s6⟩ := hS; go_simp⟩) (hS6 (by decide)) ?_
  simp only [Act.put, List.setIfInBounds_toArray, List.set_cons_zero, List.set_cons_succ]
  refine wpTill_take (i := 44) (v := .agg #[.int .i64 n, .slice a m c]) rfl (by kernel_rfl) (by kernel_rfl) (by kernel_rfl) (by kernel_rfl) (by kernel_rfl) (fun _ _ _ h => h) (Or.inl ⟨by kernel_rfl, fun w' hS => by obtain ⟨s0, s1, s2, s3, s4, s5, s6⟩ := hS; go_simp⟩) (hS6 (by decide)) ?_
  simp only [Act.put, List.setIfInBounds_toArray, List.set_cons_zero, List.set_cons_succ]
  refine wpTill_take (i := 46) (v := .agg #[.int .i64 n, .slice a m c]) rfl (by kernel_rfl) (by kernel_rfl) (by kernel_rfl) (by kernel_rfl) (by kernel_rfl) (fun _ _ _ h => h) (Or.inl ⟨by kernel_rfl, fun w' hS => by obtain ⟨s0, s1, s2, s3, s4, s5, s6⟩ := hS; go_simp⟩) (hS6 (by decide)) ?_
  simp only [Act.put, List.setIfInBounds_toArray, List.set_cons_zero, List.set_cons_succ]
  refine wpTill_one (i := 45) (by kernel_rfl) rfl (fun K hK => ?_)
  have HK := Lib.hid hK.out
  clear hK
  go_simp
  refine (HC.out _ (hS6 (by decide)).2.2.2.2.1.out).mono ?_
  rintro e wk7 ⟨vC, rfl, hE, hB⟩
  have HX := Lib.hid (L2.on hB (hS6 (by decide)))
  have HCE := Lib.hid hE; clear hE
  clear hB
  refine HK.out _ _ (fun _ => HX.out) (fun hS7 => ?_)
  clear HK HX
  refine wpTill_one (i := 47) (by kernel_rfl) rfl (fun K hK => ?_)
  have HK := Lib.hid hK.out
  clear hK
  go_simp
  refine (HS3.out _ _ HCE.out (hS7 (by decide)).2.2.2.2.1.out).mono ?_
  rintro e wk8 ⟨rfl, hB⟩
  have HX := Lib.hid (L2.on hB (hS7 (by decide)))
  clear hB
  refine HK.out _ _ (fun _ => HX.out) (fun hS8 => ?_)
  clear HK HX
  refine wpTill_take (i := 48) (v := .bool true) rfl (by kernel_rfl) (by kernel_rfl) (by kernel_rfl) (by kernel_rfl) (by kernel_rfl) (fun _ _ _ h => h) (Or.inl ⟨by kernel_rfl, fun w' hS => by obtain ⟨s0, s1, s2, s3, s4, s5, s6⟩ := hS; go_simp⟩) (hS8 (by decide)) ?_
  simp only [Act.put, List.setIfInBounds_toArray, List.set_cons_zero, List.set_cons_succ]
  refine wpTill_take (i := 49) (v := .bool true) rfl (by kernel_rfl) (by kernel_rfl) (by kernel_rfl) (by kernel_rfl) (by kernel_rfl) (fun _ _ _ h => h) (Or.inl ⟨by kernel_rfl, fun w' hS => by obtain ⟨s0, s1, s2, s3, s4, s5, s6⟩ := hS; go_simp⟩) (hS8 (by decide)) ?_
  simp only [Act.put, List.setIfInBounds_toArray, List.set_cons_zero, List.set_cons_succ]
  refine wpTill_one (i := 50) (by kernel_rfl) rfl (fun K hK => ?_)
  have HK := Lib.hid hK.out
  clear hK
  go_simp
  refine (HA.out _).mono ?_
  rintro e wk9 ⟨rfl, hB⟩
  have HX := Lib.hid (L2.on hB (hS8 (by decide)))
  clear hB
  refine HK.out _ _ (fun _ => HX.out) (fun hS9 => ?_)
  clear HK HX
  refine wpTill_take (i := 51) (v := .bool true) rfl (by kernel_rfl) (by kernel_rfl) (by kernel_rfl) (by kernel_rfl) (by kernel_rfl) (fun _ _ _ h => h) (Or.inl ⟨by kernel_rfl, fun w' hS => by obtain ⟨s0, s1, s2, s3, s4, s5, s6⟩ := hS; go_simp⟩) (hS9 (by decide)) ?_
  simp only [Act.put, List.setIfInBounds_toArray, List.set_cons_zero, List.set_cons_succ]
  have HZ := (hS9 (by decide)).2.2.2.2.2.2
  refine wpTill_one (i := 52) (by kernel_rfl) rfl (fun K hK => ?_)
  have HK := Lib.hid hK.out
  clear hK
  go_simp
  refine HK.out _ _ (fun h => absurd rfl h) (fun _ => ?_)
  clear HK
  refine wpTill_done (by kernel_rfl) ?_ _
  go_wp2
  go_ret
  exact ⟨rfl, HZ.out⟩
set_option maxHeartbeats 400000 in
theorem looks_out (G : GSpec) (n n2 i j : Int) (a a2 : Option Addr) (m c m2 c2 : Nat) (h : lightB n m = false ∨ (lightB n m = true ∧ lightB n2 m2 = false)) (w : World) :
    Calls Try.prog 3 #[.agg #[.int .i64 n, .slice a m c], .agg #[.int .i64 n2, .slice a2 m2 c2], .int .i64 i, .int .i64 j] w fun e w' => e = .returned (.bool true) ∧ Below w.heap.size w w' := by
  have HL := Lib.hid (fun W => light_any n a m c W)
  have HLb := Lib.hid (fun W => light_any n2 a2 m2 c2 W)
  have HA := Lib.hid (fun W => galive_any G W)
  have HB0 := Lib.hid (((Below.refl w.heap.size w).alloc (Nat.le_refl _) (.cells #[.int .i64 n, .slice a m c] 24)).alloc (by simp) (.cells #[.int .i64 n2, .slice a2 m2 c2] 24))
  rcases h with h | ⟨h, h'⟩
  · rw [h] at HL
    clear h HLb
    go_enter Try.func3, Try.ntmps3
    go_wp2_with (first
      | (go_at_call 7; refine (HL.out _).mono ?_; rintro e w1 ⟨rfl, hB⟩; have HB1 := Lib.hid (on_trans HB0.out hB); clear hB)
      | (go_at_call 8; refine (HA.out _).mono ?_; rintro e w2 ⟨rfl, hB⟩; have HB2 := Lib.hid (on_trans HB1.out hB); clear hB))
    go_ret
    exact ⟨rfl, HB2.out⟩
  · rw [h] at HL
    rw [h'] at HLb
    clear h h'
    go_enter Try.func3, Try.ntmps3
    go_wp2_with (first
      | (go_at_call 7; refine (HL.out _).mono ?_; rintro e w1 ⟨rfl, hB⟩; have b2 := cell_on hB (p := ⟨w.heap.size + 1, 0, none⟩) (v := .int .i64 n2) (by simp); have b3 := cell_on hB (p := ⟨w.heap.size + 1, 1, none⟩) (v := .slice a2 m2 c2) (by simp); have HB1 := Lib.hid (on_trans HB0.out hB); clear hB HL)
      | (go_at_call 7; refine (HLb.out _).mono ?_; rintro e w2 ⟨rfl, hB⟩; have HB1 := Lib.hid (on_trans HB1.out hB); clear hB HLb)
      | (go_at_call 8; refine (HA.out _).mono ?_; rintro e w3 ⟨rfl, hB⟩; have HB2 := Lib.hid (on_trans HB1.out hB); clear hB))
    go_ret
    exact ⟨rfl, HB2.out⟩
theorem lookslaw_any (G : GSpec) (n n2 i j : Int) {v v2 : Value} {es es2 : List Ed} (w : World) (h : EdgesAt w v es) (h2 : EdgesAt w v2 es2) :
    Calls Try.prog 3 #[.agg #[.int .i64 n, v], .agg #[.int .i64 n2, v2], .int .i64 i, .int .i64 j] w fun e w' => e = .returned (.bool true) ∧ Below w.heap.size w w' := by
  have h' := h
  have h2' := h2
  obtain ⟨a, c, rfl, _⟩ := h
  obtain ⟨a2, c2, rfl, _⟩ := h2
  cases hl : lightB n es.length
  · exact looks_out G n n2 i j a a2 _ c _ c2 (.inl hl) w
  · cases hl2 : lightB n2 es2.length
    · exact looks_out G n n2 i j a a2 _ c _ c2 (.inr ⟨hl, hl2⟩) w
    · by_cases hi : i < 0
      · by_cases hj : j < 0
        · exact looks_nn G n n2 i j es es2 a a2 _ c _ c2 rfl rfl hl hl2 hi hj w h' h2'
        · exact looks_np G n n2 i j es es2 a a2 _ c _ c2 rfl rfl hl hl2 hi (by omega) w h' h2'
      · by_cases hj : j < 0
        · exact looks_pn G n n2 i j es es2 a a2 _ c _ c2 rfl rfl hl hl2 (by omega) hj w h' h2'
        · exact looks_pp G n n2 i j es es2 a a2 _ c _ c2 rfl rfl hl hl2 (by omega) (by omega) w h' h2'
end Go.Proofs.Ytcgijabnknemiaa
