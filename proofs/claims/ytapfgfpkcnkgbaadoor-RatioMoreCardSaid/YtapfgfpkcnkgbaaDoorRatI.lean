import Derived.Test.YtapfgfpkcnkgbaaDoorRatH
set_option linter.unusedVariables false
set_option linter.unusedSimpArgs false
namespace Go.Proofs.YtapfgfpkcnkgbaaDoor
open Go.RowKit Go.Sort Go.Lib
theorem red_parts {n d : Nat} (h : okR n d = true) : ∃ g, 0 < g ∧ n = g * redN n d ∧ d = g * redD n d ∧ okR (redN n d) (redD n d) = true := by
  obtain ⟨h1, h2, h3⟩ := okR_le h
  have hg : 0 < Nat.gcd n d := Nat.gcd_pos_of_pos_right _ (by omega)
  have e1 : redN n d = n / Nat.gcd n d := if_pos h
  have e2 : redD n d = d / Nat.gcd n d := if_pos h
  have m1 : n = Nat.gcd n d * (n / Nat.gcd n d) := (Nat.mul_div_cancel' (Nat.gcd_dvd_left n d)).symm
  have m2 : d = Nat.gcd n d * (d / Nat.gcd n d) := (Nat.mul_div_cancel' (Nat.gcd_dvd_right n d)).symm
  have l1 : n / Nat.gcd n d ≤ n := Nat.div_le_self _ _
  have l2 : d / Nat.gcd n d ≤ d := Nat.div_le_self _ _
  have l3 : 0 < d / Nat.gcd n d := Nat.pos_of_ne_zero fun x => by rw [x] at m2; omega
  refine ⟨Nat.gcd n d, hg, by rw [e1]; exact m1, by rw [e2]; exact m2, ?_⟩
  rw [e1, e2]
  simp only [okR, Bool.and_eq_true, decide_eq_true_eq]
  omega
theorem cmp_red {n d : Nat} (h : okR n d = true) : cmpR n d (redN n d) (redD n d) = 0 := by
  obtain ⟨g, hg, e1, e2, hok⟩ := red_parts h
  unfold cmpR
  rw [if_pos ⟨h, hok⟩]
  unfold cmpZ
  generalize redN n d = x at *
  generalize redD n d = y at *
  rw [if_pos (by rw [e1, e2, Nat.mul_comm g y, ← Nat.mul_assoc, Nat.mul_comm g x, Nat.mul_assoc, Nat.mul_assoc, Nat.mul_comm g y])]
theorem within_red {v n d base : Nat} (h : okR n d = true) : withinB v (redN n d) (redD n d) base = withinB v n d base := by
  obtain ⟨g, hg, e1, e2, hok⟩ := red_parts h
  unfold withinB
  rw [h, hok]
  congr 1
  refine decide_eq_decide.2 ?_
  generalize redN n d = x at *
  generalize redD n d = y at *
  subst e1 e2
  rw [show v * (g * y) = g * (v * y) by rw [← Nat.mul_assoc, Nat.mul_comm v g, Nat.mul_assoc], Nat.mul_assoc]
  exact (Nat.mul_le_mul_left_iff hg).symm
theorem cmp_swap (p q : Nat) : -cmpZ q p = cmpZ p q ∧ (cmpZ q p = -1 ∨ cmpZ q p = 0 ∨ cmpZ q p = 1) := by
  unfold cmpZ
  by_cases h : p = q
  · subst h; simp
  · by_cases h1 : p < q
    · rw [if_neg (by omega), if_neg (by omega), if_neg h, if_pos h1]; simp
    · rw [if_neg (by omega), if_pos (by omega), if_neg h, if_neg h1]; simp
theorem within_more {v n1 d1 n2 d2 base : Nat} (hd1 : 0 < d1) (h2 : okR n2 d2 = true) (hc : n1 * d2 ≤ n2 * d1) (hx : withinB v n1 d1 base = true) : withinB v n2 d2 base = true := by
  unfold withinB at *
  rw [h2, Bool.true_and]
  simp only [Bool.and_eq_true, decide_eq_true_eq] at hx
  refine decide_eq_true ?_
  have h := hx.2
  refine (Nat.mul_le_mul_left_iff hd1).1 ?_
  have a1 : d1 * (v * d2) = v * d1 * d2 := by rw [← Nat.mul_assoc, Nat.mul_comm d1 v]
  have a2 : n1 * base * d2 = n1 * d2 * base := Nat.mul_right_comm _ _ _
  have a3 : n2 * d1 * base = d1 * (n2 * base) := by rw [Nat.mul_comm n2 d1, Nat.mul_assoc]
  rw [a1, ← a3]
  refine Nat.le_trans (Nat.mul_le_mul_right d2 h) ?_
  rw [a2]
  exact Nat.mul_le_mul_right base hc
theorem up_least {n d base : Nat} (h : okR n d = true) (hb : base ≤ 4294967296) : ∃ u : Nat, upV base n d 9223372036854775808 = u ∧ u ≤ 4503599627370497 ∧ u * d < 18446744073709551616 ∧ base * n < 18446744073709551616 ∧ base * n ≤ u * d ∧ (u = 0 ∧ base * n = 0 ∨ 0 < u ∧ (u - 1) * d < base * n) := by
  obtain ⟨h1, h2, h3⟩ := okR_le h
  have hP : base * n ≤ 4294967296 * 1048576 := Nat.mul_le_mul hb h1
  unfold upV
  rw [if_pos h]
  generalize base * n = P at *
  have e := Nat.div_add_mod' P d
  have l := Nat.mod_lt P (show 0 < d by omega)
  have l2 := Nat.div_le_self P d
  generalize P / d = q at *
  generalize P % d = r at *
  by_cases hr : r = 0
  · subst hr
    have hm : min (q + min 0 1) 9223372036854775808 = q := by omega
    refine ⟨_, rfl, by omega, by rw [hm]; omega, by omega, by rw [hm]; omega, ?_⟩
    rw [hm]
    by_cases hq : q = 0
    · subst hq; exact Or.inl ⟨rfl, by omega⟩
    · refine Or.inr ⟨by omega, ?_⟩
      have : (q - 1) * d + d = q * d := by rw [← Nat.succ_mul]; congr 1; omega
      omega
  · have hm : min (q + min r 1) 9223372036854775808 = q + 1 := by omega
    have e2 : (q + 1) * d = q * d + d := by rw [Nat.add_mul, Nat.one_mul]
    refine ⟨_, rfl, by omega, by rw [hm]; omega, by omega, by rw [hm]; omega, ?_⟩
    rw [hm]
    refine Or.inr ⟨by omega, ?_⟩
    rw [Nat.add_sub_cancel]
    omega
theorem more_not1 (v n1 d1 n2 d2 base : Nat) (h1 : n1 < 18446744073709551616) (h2 : d1 < 18446744073709551616) (h3 : n2 < 18446744073709551616) (h4 : d2 < 18446744073709551616) (hok : okR n1 d1 = false) (w : World) (htab : Pow10 w) :
    Calls Tryd.prog 6 #[.int .u64 v, .agg #[.int .u64 n1, .int .u64 d1], .agg #[.int .u64 n2, .int .u64 d2], .int .u64 base] w fun e w' => e = .returned (.bool true) ∧ Below w.heap.size w w' := by
  have C := Lib.hid (cmp_any n1 d1 n2 d2 h1 h2 h3 h4)
  rw [show cmpR n1 d1 n2 d2 = 0 from if_neg (fun x => by rw [hok] at x; simp at x)] at C
  have R1 := Lib.hid (right_any n1 d1)
  rw [hok] at R1
  have HT := Lib.hid htab
  clear h1 h2 h3 h4 hok htab
  go_enter Tryd.func6, Tryd.ntmps6
  go_wp2_with (first
    | (go_at_call_of 10 (Value.agg #[.int .u64 n1, .int .u64 d1]); refine (R1.out _).mono ?_; rintro e w1 ⟨rfl, hb1⟩; obtain ⟨c1, c2, c3, c4, hs, HB2⟩ := two_boxes w _ _ _ _ _ hb1 (Below.refl _ _); have HQ := keepQ (Below.refl _ _) ⟨c1, c2, c3, c4, hs, HB2, pow10_next HT.out HB2⟩)
    | (go_at_call 14; refine (C.out _).mono ?_; rintro e w9 ⟨rfl, hb9⟩; have q9 := keepQ hb9 HQ; obtain ⟨a1, a2, a3, a4, az, ab, ap⟩ := q9)
    | (go_at_call 7; refine (alive_any _ ap).mono ?_; rintro e w13 ⟨rfl, hb13⟩))
  go_ret
  exact ⟨rfl, ab.trans (hb13.mono (by omega))⟩
theorem more_not2 (v n1 d1 n2 d2 base : Nat) (h1 : n1 < 18446744073709551616) (h2 : d1 < 18446744073709551616) (h3 : n2 < 18446744073709551616) (h4 : d2 < 18446744073709551616) (hok1 : okR n1 d1 = true) (hok : okR n2 d2 = false) (w : World) (htab : Pow10 w) :
    Calls Tryd.prog 6 #[.int .u64 v, .agg #[.int .u64 n1, .int .u64 d1], .agg #[.int .u64 n2, .int .u64 d2], .int .u64 base] w fun e w' => e = .returned (.bool true) ∧ Below w.heap.size w w' := by
  have C := Lib.hid (cmp_any n1 d1 n2 d2 h1 h2 h3 h4)
  rw [show cmpR n1 d1 n2 d2 = 0 from if_neg (fun x => by rw [hok] at x; simp at x)] at C
  have R1 := Lib.hid (right_any n1 d1)
  rw [hok1] at R1
  have R2 := Lib.hid (right_any n2 d2)
  rw [hok] at R2
  have HT := Lib.hid htab
  clear h1 h2 h3 h4 hok hok1 htab
  go_enter Tryd.func6, Tryd.ntmps6
  go_wp2_with (first
    | (go_at_call_of 10 (Value.agg #[.int .u64 n1, .int .u64 d1]); refine (R1.out _).mono ?_; rintro e w1 ⟨rfl, hb1⟩; obtain ⟨hc1, hf1⟩ := bcell hb1)
    | (go_at_call_of 10 (Value.agg #[.int .u64 n2, .int .u64 d2]); refine (R2.out _).mono ?_; rintro e w2 ⟨rfl, hb2⟩; obtain ⟨c1, c2, c3, c4, hs, HB2⟩ := two_boxes w _ _ _ _ _ hb1 hb2; clear hc1 hf1; have HQ := keepQ (Below.refl _ _) ⟨c1, c2, c3, c4, hs, HB2, pow10_next HT.out HB2⟩)
    | (go_at_call 14; refine (C.out _).mono ?_; rintro e w9 ⟨rfl, hb9⟩; have q9 := keepQ hb9 HQ; obtain ⟨a1, a2, a3, a4, az, ab, ap⟩ := q9)
    | (go_at_call 7; refine (alive_any _ ap).mono ?_; rintro e w13 ⟨rfl, hb13⟩))
  go_ret
  exact ⟨rfl, ab.trans (hb13.mono (by omega))⟩
theorem neg_wrap {z1 z2 : Int} (h : -z2 = z1) (hz : z2 = -1 ∨ z2 = 0 ∨ z2 = 1) : IntKind.i64.wrap (-z2) = z1 ∧ wrap64 (-z2) = z1 := by
  subst h
  exact ⟨IntWalk.i64_in _ ⟨by omega, by omega⟩, IntWalk.wrap64_in _ ⟨by omega, by omega⟩⟩
theorem sub_one_cast {u : Nat} (h : 0 < u) (h2 : u < 18446744073709551616) : IntKind.u64.wrap ((u : Int) - 1) = ((u - 1 : Nat) : Int) := by
  rw [show (u : Int) - 1 = ((u - 1 : Nat) : Int) by omega]
  exact uw_in _ (by omega)
theorem more_any (v n1 d1 n2 d2 base : Nat) (hv : v < 18446744073709551616) (h1 : n1 < 18446744073709551616) (h2 : d1 < 18446744073709551616) (h3 : n2 < 18446744073709551616) (h4 : d2 < 18446744073709551616) (hs : base < 18446744073709551616) (w : World) (htab : Pow10 w) :
    Calls Tryd.prog 6 #[.int .u64 v, .agg #[.int .u64 n1, .int .u64 d1], .agg #[.int .u64 n2, .int .u64 d2], .int .u64 base] w fun e w' => e = .returned (.bool true) ∧ Below w.heap.size w w' := by
  cases ha : okR n1 d1
  · exact more_not1 v n1 d1 n2 d2 base h1 h2 h3 h4 ha w htab
  · cases hb : okR n2 d2
    · exact more_not2 v n1 d1 n2 d2 base h1 h2 h3 h4 ha hb w htab
    · obtain ⟨g, hg, e1, e2, hok⟩ := red_parts ha
      obtain ⟨l1, l2, l3⟩ := okR_le ha
      obtain ⟨k1, k2, k3⟩ := okR_le hok
      have z1 : cmpR n1 d1 n2 d2 = cmpZ (n1 * d2) (n2 * d1) := if_pos ⟨ha, hb⟩
      have z2 : cmpR n2 d2 n1 d1 = cmpZ (n2 * d1) (n1 * d2) := if_pos ⟨hb, ha⟩
      obtain ⟨zn, zs⟩ := cmp_swap (n1 * d2) (n2 * d1)
      have R1 := right_any n1 d1
      have R2 := right_any n2 d2
      have RD := reduce_any n1 d1 h1 h2
      have CAC := cmp_any n1 d1 (redN n1 d1) (redD n1 d1) h1 h2 (by omega) (by omega)
      have CAB := cmp_any n1 d1 n2 d2 h1 h2 h3 h4
      have CBA := cmp_any n2 d2 n1 d1 h3 h4 h1 h2
      have WA := within_any v n1 d1 base hv h1 h2 hs
      have WC := within_any v (redN n1 d1) (redD n1 d1) base hv (by omega) (by omega) hs
      have WB := within_any v n2 d2 base hv h3 h4 hs
      rw [ha] at R1
      rw [hb] at R2
      rw [cmp_red ha] at CAC
      rw [z1] at CAB
      rw [z2] at CBA
      rw [within_red ha] at WC
      refine more_walk v n1 d1 n2 d2 base (redN n1 d1) (redD n1 d1) _ _ _ _ w htab (Lib.hid R1) (Lib.hid R2) (Lib.hid RD) (Lib.hid CAC) (Lib.hid CAB) (Lib.hid CBA) (Lib.hid WA) (Lib.hid WC) (Lib.hid WB) (neg_wrap zn zs).1 (neg_wrap zn zs).2 ?_ ?_
      · intro hz hx
        exact within_more (show 0 < d1 by omega) hb ((cmpZ_le _ _).1 hz) hx
      · intro hbase
        obtain ⟨u, eu, hu1, hu2, hu3, hu4, hu5⟩ := up_least (base := base) ha (by omega)
        have UP := up_any base n1 d1 9223372036854775808 hs h1 (by omega)
        rw [eu] at UP
        refine ⟨u, u * d1, base * n1, u - 1, (u - 1) * d1, Lib.hid UP, ?_, ?_, hu4, ?_⟩
        · rw [← Int.natCast_mul]; exact uw_in _ hu2
        · rw [← Int.natCast_mul]; exact uw_in _ hu3
        · rcases hu5 with ⟨a, b⟩ | ⟨a, b⟩
          · exact Or.inl ⟨a, b⟩
          · refine Or.inr ⟨by rw [beq_eq_false_iff_ne]; omega, sub_one_cast a (by omega), ?_, b⟩
            rw [← Int.natCast_mul]
            exact uw_in _ (by omega)
