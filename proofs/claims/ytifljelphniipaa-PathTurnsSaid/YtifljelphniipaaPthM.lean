import Derived.Test.YtifljelphniipaaPthL
set_option linter.unusedVariables false
set_option linter.unusedSimpArgs false
namespace Go.Proofs.Ytifljelphniipaa
open Go.RowKit
attribute [local go_sem ↓] Go.wp_at_zero Go.wp_at_succ
theorem rless8_any {v u : Value} {xs ys : List Int} (h1 : xs.length ≤ 1000000) (h2 : ys.length ≤ 1000000) (w : World) (hv : IntsAt w v xs) (hu : IntsAt w u ys) :
    Calls Try.prog 23 #[v, u] w fun e w' => e = .returned (.int .i64 (lessF xs ys)) ∧ Below w.heap.size w w' := by
  obtain ⟨a1, c1, rfl, _, k1⟩ := hv
  obtain ⟨a2, c2, rfl, _, k2⟩ := hu
  exact rless8_some xs ys a1 a2 _ _ c1 c2 rfl rfl h1 h2 w (Lib.hid k1) (Lib.hid k2)
theorem rcmp8_any (x y : Nat) {v u : Value} {xs ys : List Int} (h1 : xs.length ≤ 1000000) (h2 : ys.length ≤ 1000000) (w : World) (hv : IntsAt w v xs) (hu : IntsAt w u ys) :
    Calls Try.prog 25 #[.agg #[v, .int .u64 (x : Int)], .agg #[u, .int .u64 (y : Int)]] w fun e w' => e = .returned (.int .i64 (cmpF x xs y ys)) ∧ Below w.heap.size w w' := by
  obtain ⟨a1, c1, rfl, _, k1⟩ := hv
  obtain ⟨a2, c2, rfl, _, k2⟩ := hu
  exact rcmp8_some x y xs ys a1 a2 _ _ c1 c2 rfl rfl h1 h2 w (Lib.hid k1) (Lib.hid k2)
/-- A graph and two lists, and what is known of the world. -/
def PO (w0 : World) (v u z : Value) (es : List Ed) (xs ys : List Int) (w : World) : Prop := EdgesAt w v es ∧ IntsAt w u xs ∧ IntsAt w z ys ∧ Below w0.heap.size w0 w
theorem PO.on {w0 W w1 : World} {v u z : Value} {es : List Ed} {xs ys : List Int} (hb : Below W.heap.size W w1) (h : PO w0 v u z es xs ys W) : PO w0 v u z es xs ys w1 := ⟨h.1.on hb, h.2.1.on hb, h.2.2.1.on hb, on_trans h.2.2.2 hb⟩
set_option maxHeartbeats 4000000 in
theorem porder_any (S : PathSpec) (n : Int) (x y : Nat) (hx : x < 18446744073709551616) (hy : y < 18446744073709551616) {v u z : Value} {es : List Ed} {xs ys : List Int} (w : World) (h : EdgesAt w v es) (hi : IntsAt w u xs) (hj : IntsAt w z ys) (hn : lightB n es.length = true) (hl1 : xs.length ≤ 100) (hl2 : ys.length ≤ 100) :
    Calls Try.prog 4 #[.agg #[.int .i64 n, v], .agg #[u, .int .u64 (x : Int)], .agg #[z, .int .u64 (y : Int)]] w fun e w' => e = .returned (.bool true) ∧ Below w.heap.size w w' := by
  have he := lightB_le hn
  have HP0 : Hid (PO w v u z es xs ys w) := Lib.hid ⟨h, hi, hj, Below.refl _ _⟩
  have HJ1 := Lib.hid (fun W (h : PO w v u z es xs ys W) => S.join x y u z xs ys W hx hy (by omega) (by omega) h.2.1 h.2.2.1)
  have HJ2 := Lib.hid (fun W (h : PO w v u z es xs ys W) => pjoin_any (by omega) (by omega) W h.2.1 h.2.2.1)
  have HL1 := Lib.hid (fun W (h : PO w v u z es xs ys W) => S.less u z xs ys W (by omega) (by omega) h.2.1 h.2.2.1)
  have HL2 := Lib.hid (fun W (h : PO w v u z es xs ys W) => rless8_any (by omega) (by omega) W h.2.1 h.2.2.1)
  have HC1 := Lib.hid (fun W (h : PO w v u z es xs ys W) => S.cmp x y u z xs ys W (by omega) (by omega) h.2.1 h.2.2.1)
  have HC2 := Lib.hid (fun W (h : PO w v u z es xs ys W) => rcmp8_any x y (by omega) (by omega) W h.2.1 h.2.2.1)
  have HM1 := Lib.hid (fun W (h : PO w v u z es xs ys W) => S.same x y u z xs ys W (by omega) (by omega) h.2.1 h.2.2.1)
  have HF1 := Lib.hid (fun W (h : PO w v u z es xs ys W) => S.shared n v u z es xs ys W he (by omega) (by omega) h.1 h.2.1 h.2.2.1)
  have HF2 := Lib.hid (fun W (h : PO w v u z es xs ys W) => rshared8_any n (by omega) (by omega) (by omega) W h.1 h.2.1 h.2.2.1)
  have HS := Lib.hid (fun W v1 v2 (h1 : IntsAt W v1 (xs ++ ys)) (h2 : IntsAt W v2 (xs ++ ys)) => isame_any (by simp; omega) W h1 h2)
  rw [decide_eq_true rfl] at HS
  have HA := Lib.hid (fun W => palive_any S W)
  have hw2 := guw_add x y
  generalize hZ : (x + y) % 18446744073709551616 = Z at *
  generalize lessF xs ys = q1 at HL1 HL2
  generalize cmpF x xs y ys = q2 at HC1 HC2 HM1
  obtain ⟨q, hq⟩ : ∃ q, (q2 == 0) = q := ⟨_, rfl⟩
  have hq' : decide (q2 = 0) = q := by rw [← hq]; rfl
  rw [hq'] at HM1
  have HC3 := HC2
  generalize sharedF n es xs ys = q3 at HF1 HF2
  obtain ⟨a, c, rfl, _⟩ := edgesAt_flat h
  obtain ⟨a1, c1, rfl, _, _⟩ := hi
  obtain ⟨a2, c2, rfl, _, _⟩ := hj
  have HL := Lib.hid (fun W => light_any n a es.length c W)
  rw [hn] at HL
  have l1 : (xs.length : Int) ≤ 100 := by omega
  have l2 : (ys.length : Int) ≤ 100 := by omega
  generalize hm : es.length = m at *
  generalize hk1 : xs.length = k1 at *
  generalize hk2 : ys.length = k2 at *
  have hlen : (xs ++ ys).length = k1 + k2 := by rw [List.length_append, hk1, hk2]
  have HPa : Hid (PO w (.slice a m c) (.slice a1 k1 c1) (.slice a2 k2 c2) es xs ys (((w.alloc (.cells #[.int .i64 n, .slice a m c] 24)).alloc (.cells #[.slice a1 k1 c1, .int .u64 (x : Int)] 40)).alloc (.cells #[.slice a2 k2 c2, .int .u64 (y : Int)] 40))) := Lib.hid (HP0.out.on ((((Below.refl _ _).alloc (Nat.le_refl _) _).alloc (by simp) _).alloc (by simp; omega) _))
  clear HP0
  obtain ⟨WA, hWA⟩ : ∃ WA, w.alloc (.cells #[.int .i64 n, .slice a m c] 24) = WA := ⟨_, rfl⟩
  obtain ⟨WB, hWB⟩ : ∃ WB, WA.alloc (.cells #[.slice a1 k1 c1, .int .u64 (x : Int)] 40) = WB := ⟨_, rfl⟩
  have z1 : WA.heap.size = w.heap.size + 1 := by rw [← hWA, World.size_alloc]
  have z2 : WB.heap.size = w.heap.size + 1 + 1 := by rw [← hWB, World.size_alloc, z1]
  have f1 := (Below.refl WA.heap.size WA).alloc (Nat.le_refl _) (.cells #[.slice a1 k1 c1, .int .u64 (x : Int)] 40)
  have f2 := (Below.refl WB.heap.size WB).alloc (Nat.le_refl _) (.cells #[.slice a2 k2 c2, .int .u64 (y : Int)] 40)
  rw [hWB] at f1
  have D0 := Lib.hid (cell_on f2 (cell_on f1 (show WA.cell? ⟨w.heap.size, 0, none⟩ = some (.int .i64 n) by rw [← hWA]; simp)))
  have D1 := Lib.hid (cell_on f2 (cell_on f1 (show WA.cell? ⟨w.heap.size, 1, none⟩ = some (.slice a m c) by rw [← hWA]; simp)))
  have D2 := Lib.hid (cell_on f2 (show WB.cell? ⟨w.heap.size + 1, 0, none⟩ = some (.slice a1 k1 c1) by rw [← hWB, ← z1]; simp))
  have D3 := Lib.hid (cell_on f2 (show WB.cell? ⟨w.heap.size + 1, 1, none⟩ = some (.int .u64 (x : Int)) by rw [← hWB, ← z1]; simp))
  have D4 : Hid ((WB.alloc (.cells #[.slice a2 k2 c2, .int .u64 (y : Int)] 40)).cell? ⟨w.heap.size + 1 + 1, 0, none⟩ = some (.slice a2 k2 c2)) := Lib.hid (by rw [← z2]; simp)
  have D5 : Hid ((WB.alloc (.cells #[.slice a2 k2 c2, .int .u64 (y : Int)] 40)).cell? ⟨w.heap.size + 1 + 1, 1, none⟩ = some (.int .u64 (y : Int))) := Lib.hid (by rw [← z2]; simp)
  clear f1 f2 z1 z2
  subst hWB
  subst hWA
  go_enter Try.func4, Try.ntmps4
  go_wp2_with (first
    | (go_at_call 7; refine (HL.out _).mono ?_; rintro e w1 ⟨rfl, hB⟩; have HP1 := Lib.hid (HPa.out.on hB); have b0 := cell_on hB D0.out; have b1 := cell_on hB D1.out; have b2 := cell_on hB D2.out; have b3 := cell_on hB D3.out; have b4 := cell_on hB D4.out; have b5 := cell_on hB D5.out; clear hB HL HPa D0 D1 D2 D3 D4 D5)
    | (go_at_call 21; refine (HJ1.out _ HP1.out).mono ?_; rintro e w2 ⟨v1, rfl, ⟨aj, cj, rfl, hcj, hkj⟩, hB⟩; have HP2 := Lib.hid (HP1.out.on hB); have HQ1 : Hid (IntsAt w2 (.slice aj (k1 + k2) cj) (xs ++ ys)) := Lib.hid ⟨aj, cj, by rw [hlen], hcj, hkj⟩; have b0 := cell_on hB b0; have b1 := cell_on hB b1; have b2 := cell_on hB b2; have b3 := cell_on hB b3; have b4 := cell_on hB b4; have b5 := cell_on hB b5; clear hcj hkj hB HJ1 HP1))
  have hbj := (Below.refl w2.heap.size w2).alloc (Nat.le_refl _) (.cells #[.slice aj (k1 + k2) cj, .int .u64 (Z : Int)] 40)
  have b6 : (w2.alloc (.cells #[.slice aj (k1 + k2) cj, .int .u64 (Z : Int)] 40)).cell? ⟨w2.heap.size, 0, none⟩ = some (.slice aj (k1 + k2) cj) := by simp
  have b7 : (w2.alloc (.cells #[.slice aj (k1 + k2) cj, .int .u64 (Z : Int)] 40)).cell? ⟨w2.heap.size, 1, none⟩ = some (.int .u64 (Z : Int)) := by simp
  have b0 := cell_on hbj b0
  have b1 := cell_on hbj b1
  have b2 := cell_on hbj b2
  have b3 := cell_on hbj b3
  have b4 := cell_on hbj b4
  have b5 := cell_on hbj b5
  have HP3 := Lib.hid (HP2.out.on hbj.drew)
  have HQ1 := Lib.hid (HQ1.out.on hbj.drew)
  clear hbj HP2
  simp only [List.append_eq, List.cons_append, List.nil_append]
  go_region_held3 (fun w' => w'.cell? ⟨w.heap.size, 0, none⟩ = some (.int .i64 n) ∧ w'.cell? ⟨w.heap.size, 1, none⟩ = some (.slice a m c) ∧ w'.cell? ⟨w.heap.size + 1, 0, none⟩ = some (.slice a1 k1 c1) ∧ w'.cell? ⟨w.heap.size + 1, 1, none⟩ = some (.int .u64 (x : Int)) ∧ w'.cell? ⟨w.heap.size + 1 + 1, 0, none⟩ = some (.slice a2 k2 c2) ∧ w'.cell? ⟨w.heap.size + 1 + 1, 1, none⟩ = some (.int .u64 (y : Int)) ∧ w'.cell? ⟨w2.heap.size, 0, none⟩ = some (.slice aj (k1 + k2) cj) ∧ w'.cell? ⟨w2.heap.size, 1, none⟩ = some (.int .u64 (Z : Int))) (first | exact ⟨b0, b1, b2, b3, b4, b5, b6, b7⟩) (first
    | (go_at_call 22; refine (HL1.out _ HP3.out).mono ?_; rintro e w4 ⟨rfl, hB⟩; have HP4 := Lib.hid (HP3.out.on hB); have HQ1 := Lib.hid (HQ1.out.on hB); have b0 := cell_on hB b0; have b1 := cell_on hB b1; have b2 := cell_on hB b2; have b3 := cell_on hB b3; have b4 := cell_on hB b4; have b5 := cell_on hB b5; have b6 := cell_on hB b6; have b7 := cell_on hB b7; clear hB HL1)
    | (go_at_call 23; refine (HL2.out _ HP4.out).mono ?_; rintro e w5 ⟨rfl, hB⟩; have HP5 := Lib.hid (HP4.out.on hB); have HQ1 := Lib.hid (HQ1.out.on hB); have b0 := cell_on hB b0; have b1 := cell_on hB b1; have b2 := cell_on hB b2; have b3 := cell_on hB b3; have b4 := cell_on hB b4; have b5 := cell_on hB b5; have b6 := cell_on hB b6; have b7 := cell_on hB b7; clear hB HL2)
    | (go_at_call 24; refine (HC1.out _ HP5.out).mono ?_; rintro e w6 ⟨rfl, hB⟩; have HP6 := Lib.hid (HP5.out.on hB); have HQ1 := Lib.hid (HQ1.out.on hB); have b0 := cell_on hB b0; have b1 := cell_on hB b1; have b2 := cell_on hB b2; have b3 := cell_on hB b3; have b4 := cell_on hB b4; have b5 := cell_on hB b5; have b6 := cell_on hB b6; have b7 := cell_on hB b7; clear hB HC1)
    | (go_at_call 25; refine (HC2.out _ HP6.out).mono ?_; rintro e w7 ⟨rfl, hB⟩; have HP7 := Lib.hid (HP6.out.on hB); have HQ1 := Lib.hid (HQ1.out.on hB); have b0 := cell_on hB b0; have b1 := cell_on hB b1; have b2 := cell_on hB b2; have b3 := cell_on hB b3; have b4 := cell_on hB b4; have b5 := cell_on hB b5; have b6 := cell_on hB b6; have b7 := cell_on hB b7; clear hB HC2)
    | (go_at_call 26; refine (HM1.out _ HP7.out).mono ?_; rintro e w8 ⟨rfl, hB⟩; have HP8 := Lib.hid (HP7.out.on hB); have HQ1 := Lib.hid (HQ1.out.on hB); have b0 := cell_on hB b0; have b1 := cell_on hB b1; have b2 := cell_on hB b2; have b3 := cell_on hB b3; have b4 := cell_on hB b4; have b5 := cell_on hB b5; have b6 := cell_on hB b6; have b7 := cell_on hB b7; clear hB HM1)
    | (go_at_call 25; refine (HC3.out _ HP8.out).mono ?_; rintro e w9 ⟨rfl, hB⟩; have HP9 := Lib.hid (HP8.out.on hB); have HQ1 := Lib.hid (HQ1.out.on hB); have b0 := cell_on hB b0; have b1 := cell_on hB b1; have b2 := cell_on hB b2; have b3 := cell_on hB b3; have b4 := cell_on hB b4; have b5 := cell_on hB b5; have b6 := cell_on hB b6; have b7 := cell_on hB b7; clear hB HC3)
    | (go_at_call 27; refine (HF1.out _ HP9.out).mono ?_; rintro e w10 ⟨rfl, hB⟩; have HP10 := Lib.hid (HP9.out.on hB); have HQ1 := Lib.hid (HQ1.out.on hB); have b0 := cell_on hB b0; have b1 := cell_on hB b1; have b2 := cell_on hB b2; have b3 := cell_on hB b3; have b4 := cell_on hB b4; have b5 := cell_on hB b5; have b6 := cell_on hB b6; have b7 := cell_on hB b7; clear hB HF1)
    | (go_at_call 28; refine (HF2.out _ HP10.out).mono ?_; rintro e w11 ⟨rfl, hB⟩; have HP11 := Lib.hid (HP10.out.on hB); have HQ1 := Lib.hid (HQ1.out.on hB); have b0 := cell_on hB b0; have b1 := cell_on hB b1; have b2 := cell_on hB b2; have b3 := cell_on hB b3; have b4 := cell_on hB b4; have b5 := cell_on hB b5; have b6 := cell_on hB b6; have b7 := cell_on hB b7; clear hB HF2)
    | (go_at_call 29; refine (HJ2.out _ HP11.out).mono ?_; rintro e w12 ⟨v2, rfl, hI, hB⟩; have HP12 := Lib.hid (HP11.out.on hB); have HQ1 := Lib.hid (HQ1.out.on hB); have HQ2 := Lib.hid hI; have b0 := cell_on hB b0; have b1 := cell_on hB b1; have b2 := cell_on hB b2; have b3 := cell_on hB b3; have b4 := cell_on hB b4; have b5 := cell_on hB b5; have b6 := cell_on hB b6; have b7 := cell_on hB b7; clear hB hI HJ2)
    | (go_at_call 13; refine (HS.out _ _ _ HQ1.out HQ2.out).mono ?_; rintro e w13 ⟨rfl, hB⟩; have HP13 := Lib.hid (HP12.out.on hB); have HQ1 := Lib.hid (HQ1.out.on hB); have b0 := cell_on hB b0; have b1 := cell_on hB b1; have b2 := cell_on hB b2; have b3 := cell_on hB b3; have b4 := cell_on hB b4; have b5 := cell_on hB b5; have b6 := cell_on hB b6; have b7 := cell_on hB b7; clear hB HS)
    | (go_at_call 8; refine (HA.out _).mono ?_; rintro e w14 ⟨rfl, hB⟩; have HP14 := Lib.hid (HP13.out.on hB); have HQ1 := Lib.hid (HQ1.out.on hB); have b0 := cell_on hB b0; have b1 := cell_on hB b1; have b2 := cell_on hB b2; have b3 := cell_on hB b3; have b4 := cell_on hB b4; have b5 := cell_on hB b5; have b6 := cell_on hB b6; have b7 := cell_on hB b7; clear hB HA))
  go_wp2
  go_ret
  exact ⟨rfl, HP14.out.2.2.2⟩
end Go.Proofs.Ytifljelphniipaa
