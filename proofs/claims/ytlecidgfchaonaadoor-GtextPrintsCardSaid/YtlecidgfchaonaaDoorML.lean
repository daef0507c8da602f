import Derived.Test.YtlecidgfchaonaaDoorMK
import Derived.Test.YtlecidgfchaonaaDoorMA
set_option linter.unusedVariables false
set_option linter.unusedSimpArgs false
namespace Go.Proofs.YtlecidgfchaonaaDoor
open Go.RowKit Go.Sort Go.Lib
attribute [local go_sem ↓] Go.wp_at_zero Go.wp_at_succ
theorem pow_on {w w1 : World} (h : Pow10 w) (hb : RowKit.Below w.heap.size w w1) : Pow10 w1 := pow10_below h hb (size_pos h)
/-- WHAT THE PACKAGE GTEXT ANSWERS: the premises under which stage 6's laws are walked (Read: of texts that were printed). -/
structure GtSpec : Prop where
  words : ∀ (n : Int) (v : Value) (es : List Ed) (W : World), es.length ≤ 100000 → EdgesAt W v es → Pow10 W → Calls Tryd.prog 8 #[.agg #[.int .i64 n, v]] W fun e w' => ∃ v', e = .returned (.tuple #[v', .int .i64 (gwordsF n es)]) ∧ StrsAt w' v' (gwordsV n es) ∧ RowKit.Below W.heap.size W w'
  print : ∀ (n : Int) (v : Value) (es : List Ed) (W : World), es.length ≤ 100000 → EdgesAt W v es → Pow10 W → Calls Tryd.prog 10 #[.agg #[.int .i64 n, v]] W fun e w' => e = .returned (.tuple #[.string (gprintV n es), .int .i64 (gprintF n es)]) ∧ RowKit.Below W.heap.size W w'
  parse : ∀ (v : Value) (l : List ByteArray) (W : World), l.length ≤ 100000 → (∀ x ∈ l, x.size ≤ maxLen) → StrsAt W v l → Pow10 W → Calls Tryd.prog 14 #[v] W fun e w' => ∃ v', e = .returned (.tuple #[.agg #[.int .i64 (parseG l).1, v'], .int .i64 (parseG l).2.2.1, .int .i64 (parseG l).2.2.2]) ∧ EdgesAt w' v' (parseG l).2.1 ∧ RowKit.Below W.heap.size W w'
  read : ∀ (N : Nat) (es : List Ed) (W : World), rightF N es = 0 → es.length ≤ 300 → Pow10 W → Calls Tryd.prog 17 #[.string (textG N es)] W fun e w' => ∃ v', e = .returned (.tuple #[.agg #[.int .i64 (N : Int), v'], .int .i64 0, .int .i64 0]) ∧ EdgesAt w' v' es ∧ RowKit.Below W.heap.size W w'
def light6 (l : List ByteArray) : Bool := decide (l.length ≤ 200) && l.all (fun x => decide (x.size ≤ 100))
theorem light6_no {l : List ByteArray} {k : Nat} {x : ByteArray} (hx : l[k]? = some x) (h : ¬ x.size ≤ 100) : light6 l = false := by
  have : l.all (fun x => decide (x.size ≤ 100)) = false := by
    rw [List.all_eq_false]
    exact ⟨x, List.mem_of_getElem? hx, by simpa using h⟩
  simp [light6, this]
set_option maxHeartbeats 1000000 in
theorem light6_some (l : List ByteArray) (a : Option Addr) (m c : Nat) (hm : l.length = m) (w : World) (HC : Hid (0 < m → ∃ b off, a = some ⟨b, off, none⟩ ∧ ∀ j x, l[j]? = some x → w.cell? ⟨b, off + j, none⟩ = some (.string x))) :
    Calls Tryd.prog 13 #[.slice a m c] w fun e w' => e = .returned (.bool (light6 l)) ∧ w' = w := by
  by_cases h2 : 200 < m
  · have hl : light6 l = false := by simp [light6]; omega
    rw [hl]
    have hd : decide ((200 : Int) < (m : Int)) = true := decide_eq_true (by omega)
    clear hl h2 HC
    go_enter Tryd.func13, Tryd.ntmps13
    go_wp2
    go_ret
    exact ⟨rfl, rfl⟩
  · have hd : decide ((200 : Int) < (m : Int)) = false := decide_eq_false (by omega)
    have hmi : (m : Int) ≤ 200 := by omega
    go_enter Tryd.func13, Tryd.ntmps13
    go_wp2
    go_loop [3] (fun i => ∃ k : Nat, k ≤ m ∧ i = .int .i64 k ∧ Hid (∀ (j : Nat) x, j < k → l[j]? = some x → x.size ≤ 100)) (fun i => m - (RowKit.intOf i).toNat)
    case atStart => exact ⟨0, by omega, rfl, Lib.hid fun j x h => by omega⟩
    case round =>
      obtain ⟨k, hk, rfl, HA⟩ := hrel
      by_cases hkm : k < m
      · obtain ⟨b, off, rfl, hc⟩ := HC.out (by omega)
        have hx0 : l[k]? = some (l[k]'(by omega)) := List.getElem?_eq_getElem (by omega)
        obtain ⟨x, hx⟩ : ∃ x, l[k]'(by omega) = x := ⟨_, rfl⟩
        rw [hx] at hx0
        have e0 := hc k _ hx0
        by_cases h1 : x.size ≤ 100
        · have HN : Hid (∀ (j : Nat) y, j < k + 1 → l[j]? = some y → y.size ≤ 100) := Lib.hid fun j y hj hy => by
            by_cases e : j = k
            · subst e
              rw [hx0] at hy
              obtain rfl := Option.some.inj hy
              exact h1
            · exact HA.out j y (by omega) hy
          have hd1 : decide ((100 : Int) < (x.size : Int)) = false := decide_eq_false (by omega)
          clear hx hx0 hc HC h1
          go_wp2
          go_round
          case rel => exact ⟨k + 1, by omega, by go_num, HN⟩
          case measure => simp [RowKit.intOf] <;> omega
        · have HN := Lib.hid (light6_no hx0 h1)
          have hd1 : decide ((100 : Int) < (x.size : Int)) = true := decide_eq_true (by omega)
          clear hx hx0 hc HC h1
          go_wp2
          go_ret
          exact ⟨by rw [HN.out]; rfl, rfl⟩
      · obtain rfl : k = m := by omega
        have HN : Hid (light6 l = true) := Lib.hid (by
          have : l.all (fun x => decide (x.size ≤ 100)) = true := by
            rw [List.all_eq_true]
            intro x hx
            obtain ⟨i, hi, rfl⟩ := List.getElem_of_mem hx
            exact decide_eq_true (HA.out i _ (by omega) (List.getElem?_eq_getElem hi))
          simp [light6, this]; omega)
        go_wp2
        go_ret
        exact ⟨by rw [HN.out]; rfl, rfl⟩
theorem light6_any {v : Value} {l : List ByteArray} (w : World) (h : StrsAt w v l) :
    Calls Tryd.prog 13 #[v] w fun e w' => e = .returned (.bool (light6 l)) ∧ w' = w := by
  obtain ⟨a, c, rfl, _, g⟩ := h
  exact light6_some l a l.length c rfl w (Lib.hid g)
theorem exF : gwordsF 2 [⟨0, 1, 5⟩] = 0 := by
  have h : rightF 2 [⟨0, 1, 5⟩] = 0 := by decide
  unfold gwordsF
  rw [if_pos h]
  rfl
theorem dgOne (u : Nat) (h : u < 10) : dg u = ⟨#[dgb u]⟩ := by unfold dg; rw [dd_one h]
theorem exV : gwordsV 2 [⟨0, 1, 5⟩] = [⟨#[50]⟩, ⟨#[49]⟩, ⟨#[48]⟩, ⟨#[49]⟩, ⟨#[53]⟩] := by
  unfold gwordsV
  rw [if_pos exF]
  have h : wordsG (2 : Int).toNat [⟨0, 1, 5⟩] = [dg 2, dg 1, dg 0, dg 1, dg 5] := by simp [wordsG, edW]
  rw [h, dgOne 2 (by omega), dgOne 1 (by omega), dgOne 0 (by omega), dgOne 5 (by omega)]
  have e2 : dgb 2 = 50 := by decide
  have e1 : dgb 1 = 49 := by decide
  have e0 : dgb 0 = 48 := by decide
  have e5 : dgb 5 = 53 := by decide
  rw [e2, e1, e0, e5]
theorem five_at (w : World) (a b c d e : ByteArray) : StrsAt (w.alloc (.cells #[.string a, .string b, .string c, .string d, .string e] 9)) (.slice (some ⟨w.heap.size, 0, none⟩) 5 5) [a, b, c, d, e] :=
  StrsAt.own (B := w.heap.size) (owns_full w [.string a, .string b, .string c, .string d, .string e] w.heap.size 5 9 (Nat.le_refl _) rfl (by unfold maxLen; omega))
set_option maxHeartbeats 400000 in
theorem alive6_any (G : GtSpec) (w : World) (htab : Pow10 w) :
    Calls Tryd.prog 7 #[] w fun e w' => e = .returned (.bool true) ∧ RowKit.Below w.heap.size w w' := by
  have hg := exF
  have hv := exV
  have HV := Lib.hid (fun W v (h : EdgesAt W v [⟨0, 1, 5⟩]) ht => G.words 2 v [⟨0, 1, 5⟩] W (by simp) h ht)
  rw [hg, hv] at HV
  clear hg hv
  have hb0 := (RowKit.Below.refl w.heap.size w).alloc (Nat.le_refl _) (.cells #[.int .i64 0, .int .i64 1, .int .u64 5] 43)
  have HE0 : Hid (EdgesAt (w.alloc (.cells #[.int .i64 0, .int .i64 1, .int .u64 5] 43)) (.slice (some ⟨w.heap.size, 0, none⟩) 1 1) [⟨0, 1, 5⟩]) := Lib.hid ⟨_, 1, rfl, Nat.le_refl _, fun _ => ⟨w.heap.size, 0, rfl, fun j e he => by
    match j, he with
    | 0, he => obtain rfl : (⟨0, 1, 5⟩ : Ed) = e := by simpa using he
               simp
    | j + 1, he => simp at he⟩⟩
  have HT0 := Lib.hid (pow_on htab hb0)
  have HB0 := Lib.hid hb0
  clear hb0 htab
  go_enter Tryd.func7, Tryd.ntmps7
  go_wp2_with (first
    | (go_at_call 8; refine (HV.out _ _ HE0.out HT0.out).mono ?_; rintro e w1 ⟨v1, rfl, hS, hB⟩; have HB1 := Lib.hid (on_trans HB0.out hB); have HS := Lib.hid (hS.on ((RowKit.Below.refl w1.heap.size w1).alloc (Nat.le_refl _) (.cells #[.string ⟨#[50]⟩, .string ⟨#[49]⟩, .string ⟨#[48]⟩, .string ⟨#[49]⟩, .string ⟨#[53]⟩] 9))); clear hB hS)
    | (go_at_call 12; refine (same_any (by simp) _ HS.out (five_at w1 _ _ _ _ _)).mono ?_; rintro e w2 ⟨rfl, hB⟩; have HB2 := Lib.hid ((HB1.out.alloc HB1.out.size _).trans (hB.mono (by simp; exact Nat.le_succ_of_le HB1.out.size))); clear hB))
  go_ret
  exact ⟨by simp, HB2.out⟩
end Go.Proofs.YtlecidgfchaonaaDoor

namespace Go.Proofs.YtlecidgfchaonaaDoor
open Go.RowKit
attribute [local go_sem ↓] Go.wp_at_zero Go.wp_at_succ
/-- A graph in a variable, what it reads as, and what is known of the world. -/
def QS (w0 : World) (B : Nat) (n : Int) (v : Value) (es : List Ed) (w : World) : Prop := w.cell? ⟨B, 0, none⟩ = some (.int .i64 n) ∧ w.cell? ⟨B, 1, none⟩ = some v ∧ EdgesAt w v es ∧ Below w0.heap.size w0 w ∧ Pow10 w
theorem QS.on {w0 W w1 : World} {B : Nat} {n : Int} {v : Value} {es : List Ed} (hb : Below W.heap.size W w1) (h : QS w0 B n v es W) : QS w0 B n v es w1 := ⟨cell_on hb h.1, cell_on hb h.2.1, h.2.2.1.on hb, on_trans h.2.2.2.1 hb, pow_on h.2.2.2.2 hb⟩
set_option maxHeartbeats 1000000 in
theorem printslaw_out (G : GtSpec) (n : Int) (a : Option Addr) (m c : Nat) (hl : lightB n m = false) (w : World) (htab : Pow10 w) :
    Calls Tryd.prog 3 #[.agg #[.int .i64 n, .slice a m c]] w fun e w' => e = .returned (.bool true) ∧ Below w.heap.size w w' := by
  have HL := Lib.hid (fun W => light_any n a m c W)
  rw [hl] at HL
  have HA := Lib.hid (fun W ht => alive6_any G W ht)
  have hb0 := (Below.refl w.heap.size w).alloc (Nat.le_refl _) (.cells #[.int .i64 n, .slice a m c] 24)
  have HB0 := Lib.hid hb0
  have HT0 := Lib.hid (pow_on htab hb0)
  clear hl htab hb0
  go_enter Tryd.func3, Tryd.ntmps3
  go_wp2_with (first
    | (go_at_call 6; refine (HL.out _).mono ?_; rintro e w1 ⟨rfl, hB⟩; have HB1 := Lib.hid (on_trans HB0.out hB); have HT1 := Lib.hid (pow_on HT0.out hB); clear hB HL)
    | (go_at_call 7; refine (HA.out _ HT1.out).mono ?_; rintro e w2 ⟨rfl, hB⟩; have HB2 := Lib.hid (on_trans HB1.out hB); clear hB HA))
  go_ret
  exact ⟨rfl, HB2.out⟩
set_option maxHeartbeats 4000000 in
theorem printslaw_in (G : GtSpec) (n : Int) (es : List Ed) (a : Option Addr) (m c : Nat) (hm : es.length = m) (hl : lightB n m = true) (w : World) (hE : EdgesAt w (.slice a m c) es) (htab : Pow10 w) :
    Calls Tryd.prog 3 #[.agg #[.int .i64 n, .slice a m c]] w fun e w' => e = .returned (.bool true) ∧ Below w.heap.size w w' := by
  have hm3 : m ≤ 300 := by unfold lightB at hl; simp at hl; exact hl.2
  have HL := Lib.hid (fun W => light_any n a m c W)
  rw [hl] at HL
  have HA := Lib.hid (fun W ht => alive6_any G W ht)
  have HW := Lib.hid (fun W h ht => G.words n (.slice a m c) es W (by omega) h ht)
  have HW2 := Lib.hid (fun W (h : EdgesAt W (.slice a m c) es) => rwords6_any n W (by omega) h)
  have HP := Lib.hid (fun W h ht => G.print n (.slice a m c) es W (by omega) h ht)
  have HP2 := Lib.hid (fun W (h : EdgesAt W (.slice a m c) es) => rprint6_any n W h)
  have hvl : (gwordsV n es).length ≤ 4000000 := by
    unfold gwordsV
    split
    · rw [wordsG_len]; omega
    · simp
  generalize gwordsF n es = FF at HW HW2
  generalize gwordsV n es = VV at HW HW2 hvl
  generalize gprintF n es = FP at HP HP2
  generalize gprintV n es = VP at HP HP2
  have HM := Lib.hid (fun W v1 v2 (h1 : StrsAt W v1 VV) (h2 : StrsAt W v2 VV) => same_any (v1 := v1) (v2 := v2) hvl W h1 h2)
  have hb0 := (Below.refl w.heap.size w).alloc (Nat.le_refl _) (.cells #[.int .i64 n, .slice a m c] 24)
  have HQ0 : Hid (QS w w.heap.size n (.slice a m c) es (w.alloc (.cells #[.int .i64 n, .slice a m c] 24))) := Lib.hid ⟨by simp, by simp, hE.on hb0, hb0, pow_on htab hb0⟩
  clear hl htab hb0 hE hm3 hvl hm
  go_enter Tryd.func3, Tryd.ntmps3
  go_wp2_with (first
    | (go_at_call 6; refine (HL.out _).mono ?_; rintro e w1 ⟨rfl, hB⟩; have HQ1 := Lib.hid (HQ0.out.on hB); have c10 := HQ1.out.1; have c11 := HQ1.out.2.1; clear hB HL HQ0)
    | (go_at_call 8; refine (HW.out _ HQ1.out.2.2.1 HQ1.out.2.2.2.2).mono ?_; rintro e w2 ⟨v2, rfl, hS, hB⟩; have HQ2 := Lib.hid (HQ1.out.on hB); have c20 := HQ2.out.1; have c21 := HQ2.out.2.1; have HS2 := Lib.hid hS; clear hB HW HQ1 hS c10 c11)
    | (go_at_call 9; refine (HW2.out _ HQ2.out.2.2.1).mono ?_; rintro e w3 ⟨v3, rfl, hS, hB⟩; have HQ3 := Lib.hid (HQ2.out.on hB); have c30 := HQ3.out.1; have c31 := HQ3.out.2.1; have HS3 := Lib.hid (And.intro (HS2.out.on hB) hS); clear hB HW2 HQ2 hS c20 c21 HS2)
    | (go_at_call 10; refine (HP.out _ HQ3.out.2.2.1 HQ3.out.2.2.2.2).mono ?_; rintro e w4 ⟨rfl, hB⟩; have HQ4 := Lib.hid (HQ3.out.on hB); have c40 := HQ4.out.1; have c41 := HQ4.out.2.1; have HS4 := Lib.hid (And.intro (HS3.out.1.on hB) (HS3.out.2.on hB)); clear hB HP HQ3 c30 c31 HS3)
    | (go_at_call 11; refine (HP2.out _ HQ4.out.2.2.1).mono ?_; rintro e w5 ⟨rfl, hB⟩; have HQ5 := Lib.hid (HQ4.out.on hB); have HS5 := Lib.hid (And.intro (HS4.out.1.on hB) (HS4.out.2.on hB)); clear hB HP2 HQ4 c40 c41 HS4)
    | (go_at_call 12; refine (HM.out _ _ _ HS5.out.1 HS5.out.2).mono ?_; rintro e w6 ⟨rfl, hB⟩; have HQ6 := Lib.hid (HQ5.out.on hB); clear hB HM HQ5 HS5)
    | (go_at_call 7; refine (HA.out _ HQ6.out.2.2.2.2).mono ?_; rintro e w7 ⟨rfl, hB⟩; have HQ7 := Lib.hid (HQ6.out.on hB); clear hB HA HQ6))
  go_ret
  exact ⟨by simp, HQ7.out.2.2.2.1⟩
theorem printslaw_any (G : GtSpec) (n : Int) {v : Value} {es : List Ed} (w : World) (h : EdgesAt w v es) (htab : Pow10 w) :
    Calls Tryd.prog 3 #[.agg #[.int .i64 n, v]] w fun e w' => e = .returned (.bool true) ∧ Below w.heap.size w w' := by
  have h' := h
  obtain ⟨a, c, rfl, _⟩ := h
  cases hl : lightB n es.length
  · exact printslaw_out G n a _ c hl w htab
  · exact printslaw_in G n es a _ c rfl hl w h' htab
end Go.Proofs.YtlecidgfchaonaaDoor

namespace Go.Proofs.YtlecidgfchaonaaDoor
open Go.RowKit
attribute [local go_sem ↓] Go.wp_at_zero Go.wp_at_succ
theorem edges_form {w : World} {v : Value} {es : List Ed} (h : EdgesAt w v es) : ∃ a c, v = .slice a es.length c ∧ EdgesAt w (.slice a es.length c) es := by
  have h' := h
  obtain ⟨a, c, rfl, _⟩ := h
  exact ⟨a, c, rfl, h'⟩
theorem parseG_len (l : List ByteArray) : (parseG l).2.1.length ≤ 16384 := by
  have h : ∀ fuel k nd N es, Inv6 N es k nd → (runP l fuel k nd N es).2.1.length ≤ 16384 := by
    intro fuel
    induction fuel with
    | zero => intro k nd N es _; simp [runP]
    | succ fuel ih =>
      intro k nd N es hI
      unfold runP
      split
      · split
        · simp
        · have := hI.2.1; have := hI.2.2.1; have := hI.2.2.2.1; simp only; omega
      · split
        · simp
        · split
          · simp
          · split
            · simp
            · rename_i h1 _ _ h3 h4
              exact ih _ _ _ _ (inv6_step hI (by omega) (by simpa using h4))
  exact h _ _ _ _ _ inv6_zero
theorem light6_yes {l : List ByteArray} (h : light6 l = true) : l.length ≤ 200 ∧ ∀ x ∈ l, x.size ≤ 100 := by
  simp [light6] at h
  exact ⟨h.1, fun x hx => h.2 x hx⟩
set_option maxHeartbeats 2000000 in
theorem parseslaw_any (G : GtSpec) {v : Value} {l : List ByteArray} (w : World) (h : StrsAt w v l) (htab : Pow10 w) :
    Calls Tryd.prog 4 #[v] w fun e w' => e = .returned (.bool true) ∧ Below w.heap.size w w' := by
  have HL := Lib.hid (light6_any w h)
  have HA := Lib.hid (fun W ht => alive6_any G W ht)
  have HT0 := Lib.hid htab
  cases hl : light6 l
  · rw [hl] at HL
    obtain ⟨a, c, rfl, _⟩ := h
    clear hl htab
    go_enter Tryd.func4, Tryd.ntmps4
    go_wp2_with (first
      | (go_at_call 13; refine HL.out.mono ?_; rintro e w' ⟨rfl, hw'⟩; obtain rfl := hw'.symm; clear HL)
      | (go_at_call 7; refine (HA.out _ HT0.out).mono ?_; rintro e w2 ⟨rfl, hB⟩; have HB2 := Lib.hid hB; clear hB HA))
    go_ret
    exact ⟨rfl, HB2.out⟩
  · rw [hl] at HL
    obtain ⟨l1, l2⟩ := light6_yes hl
    have hz : ∀ x ∈ l, x.size ≤ maxLen := fun x hx => by have := l2 x hx; unfold maxLen; omega
    have HP := Lib.hid (fun W h ht => G.parse v l W (by omega) hz h ht)
    have HP2 := Lib.hid (fun W (h : StrsAt W v l) => rparse6_any (v := v) (by omega) hz W h)
    have hn := parseG_len l
    obtain ⟨a, c, rfl, hc1, hc2⟩ := h
    have HS := Lib.hid (show StrsAt w (.slice a l.length c) l from ⟨a, c, rfl, hc1, hc2⟩)
    obtain ⟨PN, hPN⟩ : ∃ x, (parseG l).1 = x := ⟨_, rfl⟩
    obtain ⟨PE, hPE⟩ : ∃ x, (parseG l).2.1 = x := ⟨_, rfl⟩
    obtain ⟨PI, hPI⟩ : ∃ x, (parseG l).2.2.1 = x := ⟨_, rfl⟩
    obtain ⟨PF, hPF⟩ : ∃ x, (parseG l).2.2.2 = x := ⟨_, rfl⟩
    rw [hPN, hPE, hPI, hPF] at HP HP2
    rw [hPE] at hn
    have HM := Lib.hid (fun W v1 v2 (h1 : EdgesAt W v1 PE) (h2 : EdgesAt W v2 PE) => gsame_any PN PN (v1 := v1) (v2 := v2) (by omega) W h1 h2)
    clear hl htab hPN hPE hPI hPF l1 l2 hz hc1 hc2 hn
    go_enter Tryd.func4, Tryd.ntmps4
    go_wp2_with (first
      | (go_at_call 13; refine HL.out.mono ?_; rintro e w' ⟨rfl, hw'⟩; obtain rfl := hw'.symm; clear HL)
      | (go_at_call 14; refine (HP.out _ HS.out HT0.out).mono ?_; rintro e w1 ⟨v1, rfl, hE, hB⟩; obtain ⟨a1, c1, rfl, hE⟩ := edges_form hE; have ha := (Below.refl w1.heap.size w1).alloc (Nat.le_refl _) (.cells #[.int .i64 PN, .slice a1 PE.length c1] 24); have HB1 := Lib.hid (on_trans hB ha); have HE1 := Lib.hid (hE.on ha); have HS1 := Lib.hid ((HS.out.on hB).on ha); have HT1 := Lib.hid (pow_on (pow_on HT0.out hB) ha); clear hB hE ha HP HS HT0)
      | (go_at_call 15; refine (HP2.out _ HS1.out).mono ?_; rintro e w2 ⟨v2, rfl, hE, hB⟩; obtain ⟨a2, c2, rfl, hE⟩ := edges_form hE; have ha := (Below.refl w2.heap.size w2).alloc (Nat.le_refl _) (.cells #[.int .i64 PN, .slice a2 PE.length c2] 24); have q0 := cell_on hB (p := ⟨w1.heap.size, 0, none⟩) (v := .int .i64 PN) (by simp); have q1 := cell_on hB (p := ⟨w1.heap.size, 1, none⟩) (v := .slice a1 PE.length c1) (by simp); have hlt : w1.heap.size < w2.heap.size := World.block_lt_of_cell? w2 _ q0; have HB2 := Lib.hid (on_trans HB1.out (on_trans hB ha)); have HE2 := Lib.hid (And.intro ((HE1.out.on hB).on ha) (hE.on ha)); have HT2 := Lib.hid (pow_on (pow_on HT1.out hB) ha); clear hB hE ha HP2 HS1 HT1 HE1 HB1)
      | (go_at_call 16; refine (HM.out _ _ _ HE2.out.1 HE2.out.2).mono ?_; rintro e w3 ⟨rfl, hB⟩; have HB3 := Lib.hid (on_trans HB2.out hB); have HT3 := Lib.hid (pow_on HT2.out hB); clear hB HM HE2 HT2 HB2)
      | (go_at_call 7; refine (HA.out _ HT3.out).mono ?_; rintro e w4 ⟨rfl, hB⟩; have HB4 := Lib.hid (on_trans HB3.out hB); clear hB HA HT3 HB3))
    go_ret
    exact ⟨by simp, HB4.out⟩
end Go.Proofs.YtlecidgfchaonaaDoor
