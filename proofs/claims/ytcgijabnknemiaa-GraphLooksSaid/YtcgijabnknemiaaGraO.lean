import Derived.Test.YtcgijabnknemiaaGraN
set_option linter.unusedVariables false
set_option linter.unusedSimpArgs false
namespace Go.Proofs.Ytcgijabnknemiaa
open Go.RowKit
attribute [local go_sem ↓] Go.wp_at_zero Go.wp_at_succ
theorem edges_some {w : World} {v : Value} {e : Ed} {es : List Ed} (h : EdgesAt w v (e :: es)) : ∃ b off c, v = .slice (some ⟨b, off, none⟩) (es.length + 1) c ∧ w.cell? ⟨b, off, none⟩ = some (.int .i64 e.f) ∧ w.cell? ⟨b, off + 1, none⟩ = some (.int .i64 e.t) ∧ w.cell? ⟨b, off + 2, none⟩ = some (.int .u64 (e.w : Int)) := by
  obtain ⟨a, c, rfl, _, g⟩ := h
  obtain ⟨b, off, rfl, hc⟩ := g (by simp)
  have h0 := hc 0 e rfl
  simp only [Nat.zero_mul, Nat.add_zero] at h0
  exact ⟨b, off, c, rfl, h0.1, h0.2.1, h0.2.2⟩
theorem totalV_none (n : Int) : totalV n [] = 0 := by unfold totalV; split <;> rfl
set_option maxHeartbeats 1000000 in
theorem rtotal_none (n : Int) (a : Option Addr) (c : Nat) (w : World) :
    Calls Try.prog 21 #[.agg #[.int .i64 n, .slice a 0 c]] w fun e w' => e = .returned (.int .u64 0) ∧ Below w.heap.size w w' := by
  have HB1 := Lib.hid ((Below.refl w.heap.size w).alloc (Nat.le_refl _) (.cells #[.int .i64 n, .slice a 0 c] 24))
  go_enter Try.func21, Try.ntmps21
  go_wp2
  refine wp_loop_rounds 1 ?_
  rw [rounds_succ]
  go_wp2
  go_ret
  exact ⟨rfl, HB1.out⟩
theorem rtotal_any (n : Int) {v : Value} {es : List Ed} (w : World) (hl : es.length ≤ 4000000) (h : EdgesAt w v es) :
    Calls Try.prog 21 #[.agg #[.int .i64 n, v]] w fun e w' => e = .returned (.int .u64 (totalV n es : Nat)) ∧ Below w.heap.size w w' := by
  obtain ⟨a, c, rfl, hc, g⟩ := h
  by_cases h0 : es.length = 0
  · obtain rfl := List.length_eq_zero_iff.1 h0
    rw [totalV_none]
    exact rtotal_none n a c w
  · obtain ⟨b, off, rfl, hcell⟩ := g (by omega)
    exact rtotal_some n es b off c _ rfl hl hc w (Lib.hid hcell) (by omega)
theorem degV_len (p : Ed → Int) (n : Int) (es : List Ed) : (degV p n es).length ≤ 4096 := by
  unfold degV
  split
  · rename_i h
    rw [cntL_len]
    have := right_ends h
    omega
  · simp
set_option maxHeartbeats 1000000 in
theorem galive_any (G : GSpec) (w : World) :
    Calls Try.prog 8 #[] w fun e w' => e = .returned (.bool true) ∧ Below w.heap.size w w' := by
  have HV := Lib.hid (fun W v (h : EdgesAt W v [⟨0, 1, 5⟩]) => G.rev 2 v [⟨0, 1, 5⟩] W h)
  rw [show revV 2 [⟨0, 1, 5⟩] = (2, [⟨1, 0, 5⟩]) by decide] at HV
  have HR := Lib.hid (fun W v (h : EdgesAt W v [⟨1, 0, 5⟩]) => G.right 2 v [⟨1, 0, 5⟩] W h)
  rw [show rightF 2 [⟨1, 0, 5⟩] = 0 by decide] at HR
  have HE0 : Hid (EdgesAt (w.alloc (.cells #[.int .i64 0, .int .i64 1, .int .u64 5] 46)) (.slice (some ⟨w.heap.size, 0, none⟩) 1 1) [⟨0, 1, 5⟩]) := Lib.hid ⟨_, 1, rfl, Nat.le_refl _, fun _ => ⟨w.heap.size, 0, rfl, fun j e he => by
    match j, he with
    | 0, he => obtain rfl : (⟨0, 1, 5⟩ : Ed) = e := by simpa using he
               simp
    | j + 1, he => simp at he⟩⟩
  have HB0 := Lib.hid ((Below.refl w.heap.size w).alloc (Nat.le_refl _) (.cells #[.int .i64 0, .int .i64 1, .int .u64 5] 46))
  go_enter Try.func8, Try.ntmps8
  go_wp2_with (first
    | (go_at_call 18; refine (HV.out _ _ HE0.out).mono ?_; rintro e w1 ⟨v1, rfl, hE, hB⟩; have HB1 := Lib.hid (on_trans HB0.out hB); obtain ⟨b, off, c, rfl, e1, e2, e3⟩ := edges_some hE; have ha := (Below.refl w1.heap.size w1).alloc (Nat.le_refl _) (.cells #[.int .i64 2, .slice (some ⟨b, off, none⟩) 1 c] 24); have HE1 := Lib.hid (hE.on ha); have HB2 := Lib.hid (on_trans HB1.out ha); have e1 := cell_on ha e1; have e2 := cell_on ha e2; have e3 := cell_on ha e3; clear hE hB ha HV)
    | (go_at_call 9; refine (HR.out _ _ HE1.out).mono ?_; rintro e w2 ⟨rfl, hB⟩; have HB3 := Lib.hid (on_trans HB2.out hB); clear hB))
  go_ret
  exact ⟨rfl, HB3.out⟩
/-- What a graph in a variable reads as, and what is known of the world. -/
def LS (w0 : World) (B : Nat) (n : Int) (v : Value) (es : List Ed) (w : World) : Prop := w.cell? ⟨B, 0, none⟩ = some (.int .i64 n) ∧ w.cell? ⟨B, 1, none⟩ = some v ∧ Hid (EdgesAt w v es) ∧ Hid (Below w0.heap.size w0 w)
theorem LS.on {w0 W w1 : World} {B : Nat} {n : Int} {v : Value} {es : List Ed} (hb : Below W.heap.size W w1) (h : LS w0 B n v es W) : LS w0 B n v es w1 := ⟨cell_on hb h.1, cell_on hb h.2.1, Lib.hid (h.2.2.1.out.on hb), Lib.hid (on_trans h.2.2.2.out hb)⟩
/-- Four rows of numbers beside it. -/
def LT (w0 : World) (B : Nat) (n : Int) (v : Value) (es : List Ed) (x1 x2 y1 y2 : Value) (f t : List Int) (w : World) : Prop := w.cell? ⟨B, 0, none⟩ = some (.int .i64 n) ∧ w.cell? ⟨B, 1, none⟩ = some v ∧ Hid (EdgesAt w v es) ∧ Hid (Below w0.heap.size w0 w) ∧ Hid (IntsAt w x1 f) ∧ Hid (IntsAt w x2 t) ∧ Hid (IntsAt w y1 f) ∧ Hid (IntsAt w y2 t)
theorem LT.on {w0 W w1 : World} {B : Nat} {n : Int} {v : Value} {es : List Ed} {x1 x2 y1 y2 : Value} {f t : List Int} (hb : Below W.heap.size W w1) (h : LT w0 B n v es x1 x2 y1 y2 f t W) : LT w0 B n v es x1 x2 y1 y2 f t w1 :=
  ⟨cell_on hb h.1, cell_on hb h.2.1, Lib.hid (h.2.2.1.out.on hb), Lib.hid (on_trans h.2.2.2.1.out hb), Lib.hid (h.2.2.2.2.1.out.on hb), Lib.hid (h.2.2.2.2.2.1.out.on hb), Lib.hid (h.2.2.2.2.2.2.1.out.on hb), Lib.hid (h.2.2.2.2.2.2.2.out.on hb)⟩
set_option maxHeartbeats 4000000 in
theorem turnslaw_in (G : GSpec) (n : Int) (es : List Ed) (a : Option Addr) (m c : Nat) (hm : es.length = m) (hl : lightB n m = true) (w : World) (hE : EdgesAt w (.slice a m c) es) :
    Calls Try.prog 4 #[.agg #[.int .i64 n, .slice a m c]] w fun e w' => e = .returned (.bool true) ∧ Below w.heap.size w w' := by
  have hm3 : m ≤ 300 := by unfold lightB at hl; simp at hl; exact hl.2
  have HL := Lib.hid (fun W => light_any n a m c W)
  rw [hl] at HL
  have HA := Lib.hid (fun W => galive_any G W)
  have HD := Lib.hid (fun W h => G.deg n (.slice a m c) es W h)
  have HD2 := Lib.hid (fun W (h : EdgesAt W (.slice a m c) es) => rdeg_any n W h)
  have HV := Lib.hid (fun W h => G.rev n (.slice a m c) es W h)
  have HV2 := Lib.hid (fun W (h : EdgesAt W (.slice a m c) es) => rrev_any n W h)
  have HT := Lib.hid (fun W h => G.total n (.slice a m c) es W (by omega) h)
  have HT2 := Lib.hid (fun W (h : EdgesAt W (.slice a m c) es) => rtotal_any n W (by omega) h)
  have HS := Lib.hid (fun W v1 v2 (h1 : EdgesAt W v1 (revV n es).2) (h2 : EdgesAt W v2 (revV n es).2) => gsame_any (revV n es).1 (revV n es).1 (by have : (revV n es).2.length ≤ es.length := (by unfold revV; split <;> simp); omega) W h1 h2)
  have HI1 := Lib.hid (fun W v1 v2 (h1 : IntsAt W v1 (degV (·.f) n es)) (h2 : IntsAt W v2 (degV (·.f) n es)) => isame_any (by have := degV_len (·.f) n es; omega) W h1 h2)
  have HI2 := Lib.hid (fun W v1 v2 (h1 : IntsAt W v1 (degV (·.t) n es)) (h2 : IntsAt W v2 (degV (·.t) n es)) => isame_any (by have := degV_len (·.t) n es; omega) W h1 h2)
  rw [decide_eq_true ⟨rfl, rfl⟩] at HS
  rw [decide_eq_true rfl] at HI1 HI2
  generalize degV (·.f) n es = DF at HD HD2 HI1
  generalize degV (·.t) n es = DT at HD HD2 HI2
  generalize (revV n es).1 = RN at HV HV2 HS
  generalize (revV n es).2 = RE at HV HV2 HS
  generalize totalV n es = TV at HT HT2
  have HB0 := (Below.refl w.heap.size w).alloc (Nat.le_refl _) (.cells #[.int .i64 n, .slice a m c] 24)
  have HLS : Hid (LS w w.heap.size n (.slice a m c) es (w.alloc (.cells #[.int .i64 n, .slice a m c] 24))) := Lib.hid ⟨by simp, by simp, Lib.hid (hE.on HB0), Lib.hid HB0⟩
  clear HB0 hE hm
  go_enter Try.func4, Try.ntmps4
  go_wp2_with (first
    | (go_at_call 7; refine (HL.out _).mono ?_; rintro e w1 ⟨rfl, hB⟩; have HLS := Lib.hid (HLS.out.on hB); have b0 := HLS.out.1; have b1 := HLS.out.2.1; clear hB HL)
    | (go_at_call 16; refine (HD.out _ HLS.out.2.2.1.out).mono ?_; rintro e w2 ⟨x1, x2, rfl, h1, h2, hB⟩; have HX1 := Lib.hid h1; have HX2 := Lib.hid h2; have HLS := Lib.hid (HLS.out.on hB); clear b0 b1; have b0 := HLS.out.1; have b1 := HLS.out.2.1; clear hB h1 h2 HD)
    | (go_at_call 17; refine (HD2.out _ HLS.out.2.2.1.out).mono ?_; rintro e w3 ⟨y1, y2, rfl, h1, h2, hB⟩; have HX1 := Lib.hid (HX1.out.on hB); have HX2 := Lib.hid (HX2.out.on hB); have HY1 := Lib.hid h1; have HY2 := Lib.hid h2; have HLS := Lib.hid (HLS.out.on hB); clear b0 b1; have b0 := HLS.out.1; have b1 := HLS.out.2.1; clear hB h1 h2 HD2))
  have HLT : LT w w.heap.size n (.slice a m c) es x1 x2 y1 y2 DF DT w3 := ⟨b0, b1, HLS.out.2.2.1, HLS.out.2.2.2, HX1, HX2, HY1, HY2⟩
  clear b0 b1 HX1 HX2 HY1 HY2 HLS
  go_region_held3 (fun w' => w'.cell? ⟨w.heap.size, 0, none⟩ = some (.int .i64 n) ∧ w'.cell? ⟨w.heap.size, 1, none⟩ = some (.slice a m c) ∧ Hid (EdgesAt w' (.slice a m c) es) ∧ Hid (Below w.heap.size w w') ∧ Hid (IntsAt w' x1 DF) ∧ Hid (IntsAt w' x2 DT) ∧ Hid (IntsAt w' y1 DF) ∧ Hid (IntsAt w' y2 DT))
    (first
      | exact LT.on (Below.refl _ _).drew HLT
      | exact LT.on hB ‹_›)
    (first
      | (go_at_call 18; refine (HV.out _ (show LT w w.heap.size n (.slice a m c) es x1 x2 y1 y2 DF DT _ from ‹_›).2.2.1.out).mono ?_; rintro e w4 ⟨r1, rfl, h1, hB⟩; have HQ := Lib.hid h1; clear h1)
      | (go_at_call 19; refine (HV2.out _ (show LT w w.heap.size n (.slice a m c) es x1 x2 y1 y2 DF DT _ from ‹_›).2.2.1.out).mono ?_; rintro e w5 ⟨r2, rfl, h1, hB⟩; have HQ := Lib.hid (HQ.out.on hB); have HQ2 := Lib.hid h1; clear h1)
      | (go_at_call 14; refine (HS.out _ _ _ HQ.out HQ2.out).mono ?_; rintro e w6 ⟨rfl, hB⟩)
      | (go_at_call 20; refine (HT.out _ (show LT w w.heap.size n (.slice a m c) es x1 x2 y1 y2 DF DT _ from ‹_›).2.2.1.out).mono ?_; rintro e w7 ⟨rfl, hB⟩)
      | (go_at_call 21; refine (HT2.out _ (show LT w w.heap.size n (.slice a m c) es x1 x2 y1 y2 DF DT _ from ‹_›).2.2.1.out).mono ?_; rintro e w8 ⟨rfl, hB⟩)
      | (go_at_call_of 22 (x1); refine (HI1.out _ _ _ (show LT w w.heap.size n (.slice a m c) es x1 x2 y1 y2 DF DT _ from ‹_›).2.2.2.2.1.out (show LT w w.heap.size n (.slice a m c) es x1 x2 y1 y2 DF DT _ from ‹_›).2.2.2.2.2.2.1.out).mono ?_; rintro e w9 ⟨rfl, hB⟩)
      | (go_at_call_of 22 (x2); refine (HI2.out _ _ _ (show LT w w.heap.size n (.slice a m c) es x1 x2 y1 y2 DF DT _ from ‹_›).2.2.2.2.2.1.out (show LT w w.heap.size n (.slice a m c) es x1 x2 y1 y2 DF DT _ from ‹_›).2.2.2.2.2.2.2.out).mono ?_; rintro e wa ⟨rfl, hB⟩)
      | (go_at_call 8; refine (HA.out _).mono ?_; rintro e wb ⟨rfl, hB⟩))
  have HZ := (show LT w w.heap.size n (.slice a m c) es x1 x2 y1 y2 DF DT wb from ‹_›).2.2.2.1
  go_wp2
  go_ret
  exact ⟨rfl, HZ.out⟩
set_option maxHeartbeats 400000 in
theorem turnslaw_out (G : GSpec) (n : Int) (a : Option Addr) (m c : Nat) (hl : lightB n m = false) (w : World) :
    Calls Try.prog 4 #[.agg #[.int .i64 n, .slice a m c]] w fun e w' => e = .returned (.bool true) ∧ Below w.heap.size w w' := by
  have HL := Lib.hid (fun W => light_any n a m c W)
  rw [hl] at HL
  have HA := Lib.hid (fun W => galive_any G W)
  have HB0 := Lib.hid ((Below.refl w.heap.size w).alloc (Nat.le_refl _) (.cells #[.int .i64 n, .slice a m c] 24))
  clear hl
  go_enter Try.func4, Try.ntmps4
  go_wp2_with (first
    | (go_at_call 7; refine (HL.out _).mono ?_; rintro e w1 ⟨rfl, hB⟩; have HB1 := Lib.hid (on_trans HB0.out hB); clear hB)
    | (go_at_call 8; refine (HA.out _).mono ?_; rintro e w2 ⟨rfl, hB⟩; have HB2 := Lib.hid (on_trans HB1.out hB); clear hB))
  go_ret
  exact ⟨rfl, HB2.out⟩
theorem turnslaw_any (G : GSpec) (n : Int) {v : Value} {es : List Ed} (w : World) (h : EdgesAt w v es) :
    Calls Try.prog 4 #[.agg #[.int .i64 n, v]] w fun e w' => e = .returned (.bool true) ∧ Below w.heap.size w w' := by
  have h' := h
  obtain ⟨a, c, rfl, _⟩ := h
  cases hl : lightB n es.length
  · exact turnslaw_out G n a _ c hl w
  · exact turnslaw_in G n es a _ c rfl hl w h'
end Go.Proofs.Ytcgijabnknemiaa
