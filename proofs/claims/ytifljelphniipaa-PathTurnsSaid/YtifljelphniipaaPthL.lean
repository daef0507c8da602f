import Derived.Test.YtifljelphniipaaPthK
set_option linter.unusedVariables false
set_option linter.unusedSimpArgs false
namespace Go.Proofs.Ytifljelphniipaa
open Go.RowKit
attribute [local go_sem ↓] Go.wp_at_zero Go.wp_at_succ
/-- A graph and a list, and what is known of the world. -/
def PL (w0 : World) (v u : Value) (es : List Ed) (l : List Int) (w : World) : Prop := EdgesAt w v es ∧ IntsAt w u l ∧ Below w0.heap.size w0 w
theorem PL.on {w0 W w1 : World} {v u : Value} {es : List Ed} {l : List Int} (hb : Below W.heap.size W w1) (h : PL w0 v u es l W) : PL w0 v u es l w1 := ⟨h.1.on hb, h.2.1.on hb, on_trans h.2.2 hb⟩
theorem lightB_le {n : Int} {m : Nat} (h : lightB n m = true) : m ≤ 300 := by
  unfold lightB at h
  simp at h
  omega
set_option maxHeartbeats 4000000 in
theorem plooks_any (S : PathSpec) (n s t : Int) {v u : Value} {es : List Ed} {l : List Int} (w : World) (h : EdgesAt w v es) (hi : IntsAt w u l) (hn : lightB n es.length = true) (hl : l.length ≤ 200) :
    Calls Try.prog 3 #[.agg #[.int .i64 n, v], .int .i64 s, .int .i64 t, u] w fun e w' => e = .returned (.bool true) ∧ Below w.heap.size w w' := by
  have he := lightB_le hn
  have HP0 : Hid (PL w v u es l w) := Lib.hid ⟨h, hi, Below.refl _ _⟩
  have HN1 := Lib.hid (fun W (h : PL w v u es l W) => S.nodes n s v u es l W he hl h.1 h.2.1)
  have HN2 := Lib.hid (fun W (h : PL w v u es l W) => rnodes8_any n s (by omega) (by omega) W h.1 h.2.1)
  have HW1 := Lib.hid (fun W (h : PL w v u es l W) => S.weight n v u es l W he hl h.1 h.2.1)
  have HW2 := Lib.hid (fun W (h : PL w v u es l W) => rweight8_any n (by omega) (by omega) W h.1 h.2.1)
  have HI1 := Lib.hid (fun W (h : PL w v u es l W) => S.is n s t v u es l W he hl h.1 h.2.1)
  have HI2 := Lib.hid (fun W (h : PL w v u es l W) => ris8_any n s t (by omega) (by omega) W h.1 h.2.1)
  have HM1 := Lib.hid (fun W (h : PL w v u es l W) => S.simple n s v u es l W he hl h.1 h.2.1)
  have HM2 := Lib.hid (fun W (h : PL w v u es l W) => rsimple8_any n s (by omega) (by omega) W h.1 h.2.1)
  have HF1 := Lib.hid (fun W (h : PL w v u es l W) => S.offsets n v u es l W he hl h.1 h.2.1)
  have HF2 := Lib.hid (fun W (h : PL w v u es l W) => roff8_any n (by omega) (by omega) W h.1 h.2.1)
  have HS := Lib.hid (fun W v1 v2 (h1 : IntsAt W v1 ((nodesO n es s l).getD [])) (h2 : IntsAt W v2 ((nodesO n es s l).getD [])) => isame_any (by
    cases hO : nodesO n es s l with
    | none => simp
    | some out => have := nodesO_len hO; simp; omega) W h1 h2)
  have HV := Lib.hid (fun W v1 v2 (h1 : NatsAt W v1 (offF n es l)) (h2 : NatsAt W v2 (offF n es l)) => pwide_any (by unfold offF; split <;> simp [offK_len] <;> omega) W h1 h2)
  rw [decide_eq_true rfl] at HS HV
  have HA := Lib.hid (fun W => palive_any S W)
  generalize (nodesO n es s l).isSome = q1 at HN1 HN2
  generalize (nodesO n es s l).getD [] = N1 at HN1 HN2 HS
  generalize ((weightO n es l).getD 0) = q2 at HW1 HW2
  generalize (weightO n es l).isSome = q3 at HW1 HW2
  generalize isF n es s t l = q4 at HI1 HI2
  generalize simpF n es s l = q5 at HM1 HM2
  generalize offF n es l = N2 at HF1 HF2 HV
  obtain ⟨a, c, rfl, _⟩ := edgesAt_flat h
  obtain ⟨al, cl, rfl, _, _⟩ := hi
  have HL := Lib.hid (fun W => light_any n a es.length c W)
  rw [hn] at HL
  have hl2 : (l.length : Int) ≤ 200 := by omega
  have HPa : Hid (PL w (.slice a es.length c) (.slice al l.length cl) es l (w.alloc (.cells #[.int .i64 n, .slice a es.length c] 24))) := Lib.hid (HP0.out.on ((Below.refl _ _).alloc (Nat.le_refl _) _))
  clear HP0
  generalize hm : es.length = m at *
  generalize hk : l.length = k at *
  go_enter Try.func3, Try.ntmps3
  go_wp2_with (first
    | (go_at_call 7; refine (HL.out _).mono ?_; rintro e w1 ⟨rfl, hB⟩; have HP1 := Lib.hid (HPa.out.on hB); have b0 := cell_on hB (p := ⟨w.heap.size, 0, none⟩) (v := .int .i64 n) (by simp); have b1 := cell_on hB (p := ⟨w.heap.size, 1, none⟩) (v := .slice a m c) (by simp); clear hB HL HPa)
    | (go_at_call 9; refine (HN1.out _ HP1.out).mono ?_; rintro e w2 ⟨v1, rfl, hI, hB⟩; have HP2 := Lib.hid (HP1.out.on hB); have HQ1 := Lib.hid hI; have b0 := cell_on hB b0; have b1 := cell_on hB b1; clear hI hB HN1 HP1)
    | (go_at_call 10; refine (HN2.out _ HP2.out).mono ?_; rintro e w3 ⟨v2, rfl, hI, hB⟩; have HP3 := Lib.hid (HP2.out.on hB); have HQ1 := Lib.hid (HQ1.out.on hB); have HQ2 := Lib.hid hI; have b0 := cell_on hB b0; have b1 := cell_on hB b1; clear hI hB HN2 HP2)
    | (go_at_call 11; refine (HW1.out _ HP3.out).mono ?_; rintro e w4 ⟨rfl, hB⟩; have HP4 := Lib.hid (HP3.out.on hB); have HQ1 := Lib.hid (HQ1.out.on hB); have HQ2 := Lib.hid (HQ2.out.on hB); have b0 := cell_on hB b0; have b1 := cell_on hB b1; clear hB HW1 HP3)
    | (go_at_call 12; refine (HW2.out _ HP4.out).mono ?_; rintro e w5 ⟨rfl, hB⟩; have HP5 := Lib.hid (HP4.out.on hB); have HQ1 := Lib.hid (HQ1.out.on hB); have HQ2 := Lib.hid (HQ2.out.on hB); have b0 := cell_on hB b0; have b1 := cell_on hB b1; clear hB HW2 HP4))
  have HP5 := Lib.hid (HP5.out.on (Below.refl w5.heap.size w5).drew)
  have HQ1 := Lib.hid (HQ1.out.on (Below.refl w5.heap.size w5).drew)
  have HQ2 := Lib.hid (HQ2.out.on (Below.refl w5.heap.size w5).drew)
  go_region_held3 (fun w' => w'.cell? ⟨w.heap.size, 0, none⟩ = some (.int .i64 n) ∧ w'.cell? ⟨w.heap.size, 1, none⟩ = some (.slice a m c)) (first | exact ⟨b0, b1⟩) (first
    | (go_at_call 13; refine (HS.out _ _ _ HQ1.out HQ2.out).mono ?_; rintro e w6 ⟨rfl, hB⟩; have HP6 := Lib.hid (HP5.out.on hB); have b0 := cell_on hB b0; have b1 := cell_on hB b1; clear hB)
    | (go_at_call 14; refine (HI1.out _ HP6.out).mono ?_; rintro e w7 ⟨rfl, hB⟩; have HP7 := Lib.hid (HP6.out.on hB); have b0 := cell_on hB b0; have b1 := cell_on hB b1; clear hB)
    | (go_at_call 15; refine (HI2.out _ HP7.out).mono ?_; rintro e w8 ⟨rfl, hB⟩; have HP8 := Lib.hid (HP7.out.on hB); have b0 := cell_on hB b0; have b1 := cell_on hB b1; clear hB)
    | (go_at_call 16; refine (HM1.out _ HP8.out).mono ?_; rintro e w9 ⟨rfl, hB⟩; have HP9 := Lib.hid (HP8.out.on hB); have b0 := cell_on hB b0; have b1 := cell_on hB b1; clear hB)
    | (go_at_call 17; refine (HM2.out _ HP9.out).mono ?_; rintro e w10 ⟨rfl, hB⟩; have HP10 := Lib.hid (HP9.out.on hB); have b0 := cell_on hB b0; have b1 := cell_on hB b1; clear hB)
    | (go_at_call 19; refine (HF1.out _ HP10.out).mono ?_; rintro e w11 ⟨v3, rfl, hI, hB⟩; have HP11 := Lib.hid (HP10.out.on hB); have HQ3 := Lib.hid hI; have b0 := cell_on hB b0; have b1 := cell_on hB b1; clear hB)
    | (go_at_call 20; refine (HF2.out _ HP11.out).mono ?_; rintro e w12 ⟨v4, rfl, hI, hB⟩; have HP12 := Lib.hid (HP11.out.on hB); have HQ3 := Lib.hid (HQ3.out.on hB); have HQ4 := Lib.hid hI; have b0 := cell_on hB b0; have b1 := cell_on hB b1; clear hB)
    | (go_at_call 18; refine (HV.out _ _ _ HQ3.out HQ4.out).mono ?_; rintro e w13 ⟨rfl, hB⟩; have HP13 := Lib.hid (HP12.out.on hB); have b0 := cell_on hB b0; have b1 := cell_on hB b1; clear hB)
    | (go_at_call 8; refine (HA.out _).mono ?_; rintro e w14 ⟨rfl, hB⟩; have HP14 := Lib.hid (HP13.out.on hB); have b0 := cell_on hB b0; have b1 := cell_on hB b1; clear hB))
  go_wp2
  go_ret
  exact ⟨rfl, HP14.out.2.2⟩
set_option maxHeartbeats 1000000 in
theorem plooks_no (S : PathSpec) (n s t : Int) (a al : Option Addr) (m c k cl : Nat) (F : Bool) (hF : F = lightB n m) (hno : F = false ∨ 200 < k) (w : World) :
    Calls Try.prog 3 #[.agg #[.int .i64 n, .slice a m c], .int .i64 s, .int .i64 t, .slice al k cl] w fun e w' => e = .returned (.bool true) ∧ Below w.heap.size w w' := by
  have HB0 := Lib.hid ((Below.refl w.heap.size w).alloc (Nat.le_refl _) (.cells #[.int .i64 n, .slice a m c] 24))
  have HA := Lib.hid (fun W => palive_any S W)
  have HL := Lib.hid (fun W => light_any n a m c W)
  rw [← hF] at HL
  clear hF
  cases F
  · clear hno
    go_enter Try.func3, Try.ntmps3
    go_wp2_with (first
      | (go_at_call 7; refine (HL.out _).mono ?_; rintro e w1 ⟨rfl, hB⟩; have HB1 := Lib.hid (on_trans HB0.out hB); clear hB HL)
      | (go_at_call 8; refine (HA.out _).mono ?_; rintro e w2 ⟨rfl, hB⟩; have HB2 := Lib.hid (on_trans HB1.out hB); clear hB HA))
    go_ret
    exact ⟨rfl, HB2.out⟩
  · have hk : 200 < k := by simpa using hno
    have q1 : decide ((200 : Int) < (k : Int)) = true := decide_eq_true (by omega)
    have q1' : decide (200 < k) = true := decide_eq_true hk
    clear hno
    go_enter Try.func3, Try.ntmps3
    go_wp2_with (first
      | (go_at_call 7; refine (HL.out _).mono ?_; rintro e w1 ⟨rfl, hB⟩; have HB1 := Lib.hid (on_trans HB0.out hB); clear hB HL)
      | (go_at_call 8; refine (HA.out _).mono ?_; rintro e w2 ⟨rfl, hB⟩; have HB2 := Lib.hid (on_trans HB1.out hB); clear hB HA))
    go_ret
    exact ⟨rfl, HB2.out⟩
/-- PathLooks' walk. -/
theorem pathlooks_any (S : PathSpec) (n s t : Int) {v u : Value} {es : List Ed} {l : List Int} (w : World) (h : EdgesAt w v es) (hi : IntsAt w u l) :
    Calls Try.prog 3 #[.agg #[.int .i64 n, v], .int .i64 s, .int .i64 t, u] w fun e w' => e = .returned (.bool true) ∧ Below w.heap.size w w' := by
  by_cases h1 : lightB n es.length = true
  · by_cases h2 : l.length ≤ 200
    · exact plooks_any S n s t w h hi h1 h2
    · obtain ⟨a, c, rfl, _⟩ := edgesAt_flat h
      obtain ⟨al, cl, rfl, _, _⟩ := hi
      exact plooks_no S n s t a al es.length c l.length cl true h1.symm (.inr (by omega)) w
  · obtain ⟨a, c, rfl, _⟩ := edgesAt_flat h
    obtain ⟨al, cl, rfl, _, _⟩ := hi
    exact plooks_no S n s t a al es.length c l.length cl false (by simpa using h1) (.inl rfl) w
end Go.Proofs.Ytifljelphniipaa
