import Derived.Test.YtapfgfpkcnkgbaaDoorRatF
set_option linter.unusedVariables false
set_option linter.unusedSimpArgs false
namespace Go.Proofs.YtapfgfpkcnkgbaaDoor
open Go.RowKit Go.Sort Go.Lib
/-- What the boxes of a and b, and c's cells, read as. -/
theorem keepC {w W w1 : World} {B C : Nat} {a b1 c d e f : Value} (hb : Below W.heap.size W w1)
    (h : W.cell? ⟨B, 0, none⟩ = some a ∧ W.cell? ⟨B, 1, none⟩ = some b1 ∧ W.cell? ⟨B + 1, 0, none⟩ = some c ∧ W.cell? ⟨B + 1, 1, none⟩ = some d ∧ W.cell? ⟨C, 0, none⟩ = some e ∧ W.cell? ⟨C, 1, none⟩ = some f ∧ C + 1 ≤ W.heap.size ∧ B + 2 ≤ W.heap.size ∧ Below B w W ∧ Pow10 W) :
    w1.cell? ⟨B, 0, none⟩ = some a ∧ w1.cell? ⟨B, 1, none⟩ = some b1 ∧ w1.cell? ⟨B + 1, 0, none⟩ = some c ∧ w1.cell? ⟨B + 1, 1, none⟩ = some d ∧ w1.cell? ⟨C, 0, none⟩ = some e ∧ w1.cell? ⟨C, 1, none⟩ = some f ∧ C + 1 ≤ w1.heap.size ∧ B + 2 ≤ w1.heap.size ∧ Below B w w1 ∧ Pow10 w1 := by
  obtain ⟨k1, k2, k3, k4, k5, k6, k7, k8, k9, k10⟩ := h
  obtain ⟨m1, m2, m3, m4, ms, mb, mp⟩ := keepQ hb ⟨k1, k2, k3, k4, k8, k9, k10⟩
  obtain ⟨c1, c2, cs, cb⟩ := keep2 hb ⟨k5, k6, k7, Below.refl _ _⟩
  exact ⟨m1, m2, m3, m4, c1, c2, cs, ms, mb, mp⟩
theorem startC {w W : World} {B : Nat} {a b1 c d e f : Value} (T : TypeId)
    (h : W.cell? ⟨B, 0, none⟩ = some a ∧ W.cell? ⟨B, 1, none⟩ = some b1 ∧ W.cell? ⟨B + 1, 0, none⟩ = some c ∧ W.cell? ⟨B + 1, 1, none⟩ = some d ∧ B + 2 ≤ W.heap.size ∧ Below B w W ∧ Pow10 W) :
    (W.alloc (.cells #[e, f] T)).drew.cell? ⟨B, 0, none⟩ = some a ∧ (W.alloc (.cells #[e, f] T)).drew.cell? ⟨B, 1, none⟩ = some b1 ∧ (W.alloc (.cells #[e, f] T)).drew.cell? ⟨B + 1, 0, none⟩ = some c ∧ (W.alloc (.cells #[e, f] T)).drew.cell? ⟨B + 1, 1, none⟩ = some d ∧
    (W.alloc (.cells #[e, f] T)).drew.cell? ⟨W.heap.size, 0, none⟩ = some e ∧ (W.alloc (.cells #[e, f] T)).drew.cell? ⟨W.heap.size, 1, none⟩ = some f ∧ W.heap.size + 1 ≤ (W.alloc (.cells #[e, f] T)).drew.heap.size ∧ B + 2 ≤ (W.alloc (.cells #[e, f] T)).drew.heap.size ∧ Below B w (W.alloc (.cells #[e, f] T)).drew ∧ Pow10 (W.alloc (.cells #[e, f] T)).drew := by
  have hb : Below W.heap.size W (W.alloc (.cells #[e, f] T)).drew := ((Below.refl _ _).alloc (Nat.le_refl _) _).drew
  obtain ⟨m1, m2, m3, m4, ms, mb, mp⟩ := keepQ hb h
  obtain ⟨c1, c2, cs, cb⟩ := box2 W e f T
  exact ⟨m1, m2, m3, m4, c1, c2, cs, ms, mb, mp⟩
set_option maxHeartbeats 1000000 in
theorem more_walk (v n1 d1 n2 d2 base cn cd : Nat) (z1 z2 : Int) (x y : Bool) (w : World) (htab : Pow10 w)
    (R1 : Hid (∀ w, Calls Tryd.prog 10 #[.agg #[.int .u64 n1, .int .u64 d1]] w fun e w' => e = .returned (.bool true) ∧ Below w.heap.size w w'))
    (R2 : Hid (∀ w, Calls Tryd.prog 10 #[.agg #[.int .u64 n2, .int .u64 d2]] w fun e w' => e = .returned (.bool true) ∧ Below w.heap.size w w'))
    (RD : Hid (∀ w, Calls Tryd.prog 16 #[.agg #[.int .u64 n1, .int .u64 d1]] w fun e w' => e = .returned (.agg #[.int .u64 cn, .int .u64 cd]) ∧ Below w.heap.size w w'))
    (CAC : Hid (∀ w, Calls Tryd.prog 14 #[.agg #[.int .u64 n1, .int .u64 d1], .agg #[.int .u64 cn, .int .u64 cd]] w fun e w' => e = .returned (.int .i64 0) ∧ Below w.heap.size w w'))
    (CAB : Hid (∀ w, Calls Tryd.prog 14 #[.agg #[.int .u64 n1, .int .u64 d1], .agg #[.int .u64 n2, .int .u64 d2]] w fun e w' => e = .returned (.int .i64 z1) ∧ Below w.heap.size w w'))
    (CBA : Hid (∀ w, Calls Tryd.prog 14 #[.agg #[.int .u64 n2, .int .u64 d2], .agg #[.int .u64 n1, .int .u64 d1]] w fun e w' => e = .returned (.int .i64 z2) ∧ Below w.heap.size w w'))
    (WA : Hid (∀ w, Calls Tryd.prog 18 #[.int .u64 v, .agg #[.int .u64 n1, .int .u64 d1], .int .u64 base] w fun e w' => e = .returned (.bool x) ∧ Below w.heap.size w w'))
    (WC : Hid (∀ w, Calls Tryd.prog 18 #[.int .u64 v, .agg #[.int .u64 cn, .int .u64 cd], .int .u64 base] w fun e w' => e = .returned (.bool x) ∧ Below w.heap.size w w'))
    (WB : Hid (∀ w, Calls Tryd.prog 18 #[.int .u64 v, .agg #[.int .u64 n2, .int .u64 d2], .int .u64 base] w fun e w' => e = .returned (.bool y) ∧ Below w.heap.size w w'))
    (gneg : IntKind.i64.wrap (-z2) = z1) (gneg2 : wrap64 (-z2) = z1) (HXY : z1 ≤ 0 → x = true → y = true)
    (HN : ¬ 4294967296 < base → ∃ u p1 p2 u1 p3 : Nat, Hid (∀ w, Calls Tryd.prog 22 #[.int .u64 base, .agg #[.int .u64 n1, .int .u64 d1], .int .u64 9223372036854775808] w fun e w' => e = .returned (.int .u64 u) ∧ Below w.heap.size w w') ∧
      IntKind.u64.wrap ((u : Int) * d1) = p1 ∧ IntKind.u64.wrap ((base : Int) * n1) = p2 ∧ p2 ≤ p1 ∧ ((u = 0 ∧ p2 = 0) ∨ ((u : Int) == 0) = false ∧ IntKind.u64.wrap ((u : Int) - 1) = u1 ∧ IntKind.u64.wrap ((u1 : Int) * d1) = p3 ∧ p3 < p2)) :
    Calls Tryd.prog 6 #[.int .u64 v, .agg #[.int .u64 n1, .int .u64 d1], .agg #[.int .u64 n2, .int .u64 d2], .int .u64 base] w fun e w' => e = .returned (.bool true) ∧ Below w.heap.size w w' := by
  have HB := Lib.hid (boxesP w (.int .u64 n1) (.int .u64 d1) (.int .u64 n2) (.int .u64 d2) 24 htab)
  have HT := Lib.hid htab
  clear htab
  go_enter Tryd.func6, Tryd.ntmps6
  go_wp2_with (first
    | (go_at_call_of 10 (Value.agg #[.int .u64 n1, .int .u64 d1]); refine (R1.out _).mono ?_; rintro e w1 ⟨rfl, hb1⟩; obtain ⟨hc1, hf1⟩ := bcell hb1)
    | (go_at_call_of 10 (Value.agg #[.int .u64 n2, .int .u64 d2]); refine (R2.out _).mono ?_; rintro e w2 ⟨rfl, hb2⟩; obtain ⟨c1, c2, c3, c4, hs, HB2⟩ := two_boxes w _ _ _ _ _ hb1 hb2)
    | (go_at_call 16; refine (RD.out _).mono ?_; rintro e w3 ⟨rfl, hb3⟩; have HQ := Lib.hid (keepQ hb3 ⟨c1, c2, c3, c4, hs, HB2, pow10_next HT.out HB2⟩)))
  have HS := Lib.hid (startC (e := Value.int .u64 cn) (f := Value.int .u64 cd) 24 HQ.out)
  have HX := Lib.hid HXY
  have HM := Lib.hid HN
  clear HXY HN hc1 hf1 hb1 hb2 hb3 c1 c2 c3 c4 hs HB2 HQ HB R1 R2 RD HT
  go_region_held3 (fun w' => w'.cell? ⟨w.heap.size, 0, none⟩ = some (Value.int .u64 n1) ∧ w'.cell? ⟨w.heap.size, 1, none⟩ = some (Value.int .u64 d1) ∧ w'.cell? ⟨w.heap.size + 1, 0, none⟩ = some (Value.int .u64 n2) ∧ w'.cell? ⟨w.heap.size + 1, 1, none⟩ = some (Value.int .u64 d2) ∧ w'.cell? ⟨w3.heap.size, 0, none⟩ = some (Value.int .u64 cn) ∧ w'.cell? ⟨w3.heap.size, 1, none⟩ = some (Value.int .u64 cd) ∧ w3.heap.size + 1 ≤ w'.heap.size ∧ w.heap.size + 2 ≤ w'.heap.size ∧ Below w.heap.size w w' ∧ Pow10 w')
    (first
      | exact keepC hb4 ‹_›
      | exact keepC hb5 ‹_›
      | exact keepC hb6 ‹_›
      | exact keepC hb7 ‹_›
      | exact keepC hb8 ‹_›
      | exact HS.out
      | go_keep)
    (first
    | (go_at_call_of 14 (Value.agg #[.int .u64 cn, .int .u64 cd]); refine (CAC.out _).mono ?_; rintro e w4 ⟨rfl, hb4⟩)
    | (go_at_call_of 18 (Value.agg #[.int .u64 n1, .int .u64 d1]); refine (WA.out _).mono ?_; rintro e w5 ⟨rfl, hb5⟩)
    | (go_at_call_of 18 (Value.agg #[.int .u64 cn, .int .u64 cd]); refine (WC.out _).mono ?_; rintro e w6 ⟨rfl, hb6⟩)
    | (go_at_call_of 14 (#[Value.agg #[.int .u64 n1, .int .u64 d1], Value.agg #[.int .u64 n2, .int .u64 d2]]); refine (CAB.out _).mono ?_; rintro e w7 ⟨rfl, hb7⟩)
    | (go_at_call_of 14 (#[Value.agg #[.int .u64 n2, .int .u64 d2], Value.agg #[.int .u64 n1, .int .u64 d1]]); refine (CBA.out _).mono ?_; rintro e w8 ⟨rfl, hb8⟩))
  rename_i hH
  obtain ⟨m1, m2, m3, m4, m5, m6, ms1, ms2, mb, mp⟩ := hH
  clear HS hb4 hb5 hb6 hb7 hb8 CAC CBA WC gneg gneg2 m5 m6 ms1
  by_cases hz : z1 ≤ 0
  · cases x with
    | false =>
      clear HX
      by_cases hbase : 4294967296 < base
      · clear HM
        go_wp2_with (first
          | (go_at_call 14; refine (CAB.out _).mono ?_; rintro e w9 ⟨rfl, hb9⟩; have q9 := keepQ hb9 ⟨m1, m2, m3, m4, ms2, mb, mp⟩; obtain ⟨a1, a2, a3, a4, az, ab, ap⟩ := q9)
          | (go_at_call_of 18 (Value.agg #[.int .u64 n1, .int .u64 d1]); refine (WA.out _).mono ?_; rintro e w10 ⟨rfl, hb10⟩; have q10 := keepQ hb10 ⟨a1, a2, a3, a4, az, ab, ap⟩; obtain ⟨b1, b2, b3, b4, bs, bb, bp⟩ := q10)
          | (go_at_call_of 18 (Value.agg #[.int .u64 n2, .int .u64 d2]); refine (WB.out _).mono ?_; rintro e w11 ⟨rfl, hb11⟩; have q11 := keepQ hb11 ⟨b1, b2, b3, b4, bs, bb, bp⟩; obtain ⟨c1, c2, c3, c4, cs, cb, cp⟩ := q11)
          | (go_at_call 7; refine (alive_any _ bp).mono ?_; rintro e w13 ⟨rfl, hb13⟩))
        go_ret
        exact ⟨rfl, bb.trans (hb13.mono (by omega))⟩
      · obtain ⟨u, p1, p2, u1, p3, UP, e1, e2, e3, e4⟩ := HM.out hbase
        clear HM
        rcases e4 with ⟨rfl, rfl⟩ | ⟨e4, e5, e6, e7⟩
        · go_wp2_with (first
            | (go_at_call 14; refine (CAB.out _).mono ?_; rintro e w9 ⟨rfl, hb9⟩; have q9 := keepQ hb9 ⟨m1, m2, m3, m4, ms2, mb, mp⟩; obtain ⟨a1, a2, a3, a4, az, ab, ap⟩ := q9)
            | (go_at_call_of 18 (Value.agg #[.int .u64 n1, .int .u64 d1]); refine (WA.out _).mono ?_; rintro e w10 ⟨rfl, hb10⟩; have q10 := keepQ hb10 ⟨a1, a2, a3, a4, az, ab, ap⟩; obtain ⟨b1, b2, b3, b4, bs, bb, bp⟩ := q10)
            | (go_at_call_of 18 (Value.agg #[.int .u64 n2, .int .u64 d2]); refine (WB.out _).mono ?_; rintro e w11 ⟨rfl, hb11⟩; have q11 := keepQ hb11 ⟨b1, b2, b3, b4, bs, bb, bp⟩; obtain ⟨c1, c2, c3, c4, cs, cb, cp⟩ := q11)
            | (go_at_call 22; refine (UP.out _).mono ?_; rintro e w12 ⟨rfl, hb12⟩; have q12 := keepQ hb12 ⟨b1, b2, b3, b4, bs, bb, bp⟩; obtain ⟨g1, g2, g3, g4, gs, gb, gp⟩ := q12)
            | (go_at_call 7; refine (alive_any _ gp).mono ?_; rintro e w13 ⟨rfl, hb13⟩))
          go_ret
          exact ⟨rfl, gb.trans (hb13.mono (by omega))⟩
        · go_wp2_with (first
            | (go_at_call 14; refine (CAB.out _).mono ?_; rintro e w9 ⟨rfl, hb9⟩; have q9 := keepQ hb9 ⟨m1, m2, m3, m4, ms2, mb, mp⟩; obtain ⟨a1, a2, a3, a4, az, ab, ap⟩ := q9)
            | (go_at_call_of 18 (Value.agg #[.int .u64 n1, .int .u64 d1]); refine (WA.out _).mono ?_; rintro e w10 ⟨rfl, hb10⟩; have q10 := keepQ hb10 ⟨a1, a2, a3, a4, az, ab, ap⟩; obtain ⟨b1, b2, b3, b4, bs, bb, bp⟩ := q10)
            | (go_at_call_of 18 (Value.agg #[.int .u64 n2, .int .u64 d2]); refine (WB.out _).mono ?_; rintro e w11 ⟨rfl, hb11⟩; have q11 := keepQ hb11 ⟨b1, b2, b3, b4, bs, bb, bp⟩; obtain ⟨c1, c2, c3, c4, cs, cb, cp⟩ := q11)
            | (go_at_call 22; refine (UP.out _).mono ?_; rintro e w12 ⟨rfl, hb12⟩; have q12 := keepQ hb12 ⟨b1, b2, b3, b4, bs, bb, bp⟩; obtain ⟨g1, g2, g3, g4, gs, gb, gp⟩ := q12)
            | (go_at_call 7; refine (alive_any _ gp).mono ?_; rintro e w13 ⟨rfl, hb13⟩))
          go_ret
          exact ⟨rfl, gb.trans (hb13.mono (by omega))⟩
    | true =>
      obtain rfl := HX.out hz rfl
      clear HX
      by_cases hbase : 4294967296 < base
      · clear HM
        go_wp2_with (first
          | (go_at_call 14; refine (CAB.out _).mono ?_; rintro e w9 ⟨rfl, hb9⟩; have q9 := keepQ hb9 ⟨m1, m2, m3, m4, ms2, mb, mp⟩; obtain ⟨a1, a2, a3, a4, az, ab, ap⟩ := q9)
          | (go_at_call_of 18 (Value.agg #[.int .u64 n1, .int .u64 d1]); refine (WA.out _).mono ?_; rintro e w10 ⟨rfl, hb10⟩; have q10 := keepQ hb10 ⟨a1, a2, a3, a4, az, ab, ap⟩; obtain ⟨b1, b2, b3, b4, bs, bb, bp⟩ := q10)
          | (go_at_call_of 18 (Value.agg #[.int .u64 n2, .int .u64 d2]); refine (WB.out _).mono ?_; rintro e w11 ⟨rfl, hb11⟩; have q11 := keepQ hb11 ⟨b1, b2, b3, b4, bs, bb, bp⟩; obtain ⟨c1, c2, c3, c4, cs, cb, cp⟩ := q11)
          | (go_at_call 7; refine (alive_any _ cp).mono ?_; rintro e w13 ⟨rfl, hb13⟩))
        go_ret
        exact ⟨rfl, cb.trans (hb13.mono (by omega))⟩
      · obtain ⟨u, p1, p2, u1, p3, UP, e1, e2, e3, e4⟩ := HM.out hbase
        clear HM
        rcases e4 with ⟨rfl, rfl⟩ | ⟨e4, e5, e6, e7⟩
        · go_wp2_with (first
            | (go_at_call 14; refine (CAB.out _).mono ?_; rintro e w9 ⟨rfl, hb9⟩; have q9 := keepQ hb9 ⟨m1, m2, m3, m4, ms2, mb, mp⟩; obtain ⟨a1, a2, a3, a4, az, ab, ap⟩ := q9)
            | (go_at_call_of 18 (Value.agg #[.int .u64 n1, .int .u64 d1]); refine (WA.out _).mono ?_; rintro e w10 ⟨rfl, hb10⟩; have q10 := keepQ hb10 ⟨a1, a2, a3, a4, az, ab, ap⟩; obtain ⟨b1, b2, b3, b4, bs, bb, bp⟩ := q10)
            | (go_at_call_of 18 (Value.agg #[.int .u64 n2, .int .u64 d2]); refine (WB.out _).mono ?_; rintro e w11 ⟨rfl, hb11⟩; have q11 := keepQ hb11 ⟨b1, b2, b3, b4, bs, bb, bp⟩; obtain ⟨c1, c2, c3, c4, cs, cb, cp⟩ := q11)
            | (go_at_call 22; refine (UP.out _).mono ?_; rintro e w12 ⟨rfl, hb12⟩; have q12 := keepQ hb12 ⟨c1, c2, c3, c4, cs, cb, cp⟩; obtain ⟨g1, g2, g3, g4, gs, gb, gp⟩ := q12)
            | (go_at_call 7; refine (alive_any _ gp).mono ?_; rintro e w13 ⟨rfl, hb13⟩))
          go_ret
          exact ⟨rfl, gb.trans (hb13.mono (by omega))⟩
        · go_wp2_with (first
            | (go_at_call 14; refine (CAB.out _).mono ?_; rintro e w9 ⟨rfl, hb9⟩; have q9 := keepQ hb9 ⟨m1, m2, m3, m4, ms2, mb, mp⟩; obtain ⟨a1, a2, a3, a4, az, ab, ap⟩ := q9)
            | (go_at_call_of 18 (Value.agg #[.int .u64 n1, .int .u64 d1]); refine (WA.out _).mono ?_; rintro e w10 ⟨rfl, hb10⟩; have q10 := keepQ hb10 ⟨a1, a2, a3, a4, az, ab, ap⟩; obtain ⟨b1, b2, b3, b4, bs, bb, bp⟩ := q10)
            | (go_at_call_of 18 (Value.agg #[.int .u64 n2, .int .u64 d2]); refine (WB.out _).mono ?_; rintro e w11 ⟨rfl, hb11⟩; have q11 := keepQ hb11 ⟨b1, b2, b3, b4, bs, bb, bp⟩; obtain ⟨c1, c2, c3, c4, cs, cb, cp⟩ := q11)
            | (go_at_call 22; refine (UP.out _).mono ?_; rintro e w12 ⟨rfl, hb12⟩; have q12 := keepQ hb12 ⟨c1, c2, c3, c4, cs, cb, cp⟩; obtain ⟨g1, g2, g3, g4, gs, gb, gp⟩ := q12)
            | (go_at_call 7; refine (alive_any _ gp).mono ?_; rintro e w13 ⟨rfl, hb13⟩))
          go_ret
          exact ⟨rfl, gb.trans (hb13.mono (by omega))⟩
  · clear HX
    by_cases hbase : 4294967296 < base
    · clear HM
      go_wp2_with (first
        | (go_at_call 14; refine (CAB.out _).mono ?_; rintro e w9 ⟨rfl, hb9⟩; have q9 := keepQ hb9 ⟨m1, m2, m3, m4, ms2, mb, mp⟩; obtain ⟨a1, a2, a3, a4, az, ab, ap⟩ := q9)
        | (go_at_call_of 18 (Value.agg #[.int .u64 n1, .int .u64 d1]); refine (WA.out _).mono ?_; rintro e w10 ⟨rfl, hb10⟩; have q10 := keepQ hb10 ⟨a1, a2, a3, a4, az, ab, ap⟩; obtain ⟨b1, b2, b3, b4, bs, bb, bp⟩ := q10)
        | (go_at_call_of 18 (Value.agg #[.int .u64 n2, .int .u64 d2]); refine (WB.out _).mono ?_; rintro e w11 ⟨rfl, hb11⟩; have q11 := keepQ hb11 ⟨b1, b2, b3, b4, bs, bb, bp⟩; obtain ⟨c1, c2, c3, c4, cs, cb, cp⟩ := q11)
        | (go_at_call 7; refine (alive_any _ ap).mono ?_; rintro e w13 ⟨rfl, hb13⟩))
      go_ret
      exact ⟨rfl, ab.trans (hb13.mono (by omega))⟩
    · obtain ⟨u, p1, p2, u1, p3, UP, e1, e2, e3, e4⟩ := HM.out hbase
      clear HM
      rcases e4 with ⟨rfl, rfl⟩ | ⟨e4, e5, e6, e7⟩
      · go_wp2_with (first
          | (go_at_call 14; refine (CAB.out _).mono ?_; rintro e w9 ⟨rfl, hb9⟩; have q9 := keepQ hb9 ⟨m1, m2, m3, m4, ms2, mb, mp⟩; obtain ⟨a1, a2, a3, a4, az, ab, ap⟩ := q9)
          | (go_at_call_of 18 (Value.agg #[.int .u64 n1, .int .u64 d1]); refine (WA.out _).mono ?_; rintro e w10 ⟨rfl, hb10⟩; have q10 := keepQ hb10 ⟨a1, a2, a3, a4, az, ab, ap⟩; obtain ⟨b1, b2, b3, b4, bs, bb, bp⟩ := q10)
          | (go_at_call_of 18 (Value.agg #[.int .u64 n2, .int .u64 d2]); refine (WB.out _).mono ?_; rintro e w11 ⟨rfl, hb11⟩; have q11 := keepQ hb11 ⟨b1, b2, b3, b4, bs, bb, bp⟩; obtain ⟨c1, c2, c3, c4, cs, cb, cp⟩ := q11)
          | (go_at_call 22; refine (UP.out _).mono ?_; rintro e w12 ⟨rfl, hb12⟩; have q12 := keepQ hb12 ⟨a1, a2, a3, a4, az, ab, ap⟩; obtain ⟨g1, g2, g3, g4, gs, gb, gp⟩ := q12)
          | (go_at_call 7; refine (alive_any _ gp).mono ?_; rintro e w13 ⟨rfl, hb13⟩))
        go_ret
        exact ⟨rfl, gb.trans (hb13.mono (by omega))⟩
      · go_wp2_with (first
          | (go_at_call 14; refine (CAB.out _).mono ?_; rintro e w9 ⟨rfl, hb9⟩; have q9 := keepQ hb9 ⟨m1, m2, m3, m4, ms2, mb, mp⟩; obtain ⟨a1, a2, a3, a4, az, ab, ap⟩ := q9)
          | (go_at_call_of 18 (Value.agg #[.int .u64 n1, .int .u64 d1]); refine (WA.out _).mono ?_; rintro e w10 ⟨rfl, hb10⟩; have q10 := keepQ hb10 ⟨a1, a2, a3, a4, az, ab, ap⟩; obtain ⟨b1, b2, b3, b4, bs, bb, bp⟩ := q10)
          | (go_at_call_of 18 (Value.agg #[.int .u64 n2, .int .u64 d2]); refine (WB.out _).mono ?_; rintro e w11 ⟨rfl, hb11⟩; have q11 := keepQ hb11 ⟨b1, b2, b3, b4, bs, bb, bp⟩; obtain ⟨c1, c2, c3, c4, cs, cb, cp⟩ := q11)
          | (go_at_call 22; refine (UP.out _).mono ?_; rintro e w12 ⟨rfl, hb12⟩; have q12 := keepQ hb12 ⟨a1, a2, a3, a4, az, ab, ap⟩; obtain ⟨g1, g2, g3, g4, gs, gb, gp⟩ := q12)
          | (go_at_call 7; refine (alive_any _ gp).mono ?_; rintro e w13 ⟨rfl, hb13⟩))
        go_ret
        exact ⟨rfl, gb.trans (hb13.mono (by omega))⟩
