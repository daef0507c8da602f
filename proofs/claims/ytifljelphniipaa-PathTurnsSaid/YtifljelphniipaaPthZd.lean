import Derived.Test.YtifljelphniipaaGraZb
import Derived.Test.YtifljelphniipaaPthB
set_option linter.unusedVariables false
set_option linter.unusedSimpArgs false
namespace Go.Proofs.Ytifljelphniipaa
open Go.RowKit
attribute [local go_sem ↓] Go.wp_at_zero Go.wp_at_succ
set_option maxHeartbeats 400000 in
/-- usable's first closure: is a number none of an edge? -/
theorem pwrongI (n : Int) (a : Option Addr) (m c : Nat) (x : Int) (B : Nat) (w : World) (g0 : w.cell? ⟨B, 0, none⟩ = some (.int .i64 n)) (g1 : w.cell? ⟨B, 1, none⟩ = some (.slice a m c)) :
    Calls Try.prog 42 #[.int .i64 x, .pointer (some ⟨B, 0, none⟩)] w fun e w' => e = .returned (.bool (!nodeB m x)) ∧ Below w.heap.size w w' := by
  have HE := Lib.hid (fun W => pedge_any n a m c x W)
  generalize nodeB m x = q at HE ⊢
  go_enter Try.func42, Try.ntmps42
  go_wp2_with (go_at_call 43; refine (HE.out _).mono ?_; rintro e w1 ⟨rfl, hB⟩; have HB1 := Lib.hid hB; clear hB HE)
  go_ret
  exact ⟨rfl, HB1.out⟩
theorem okL_nodes (m : Nat) (l : List Int) : okL m l = l.all fun x => nodeB m x := rfl
set_option maxHeartbeats 1000000 in
theorem pidxI_any (n : Int) (a : Option Addr) (m c : Nat) (B : Nat) (l : List Int) (al : Option Addr) (ml cl : Nat) (hl : l.length = ml) (hl1 : ml ≤ 4000000) (w : World) (HL : Hid (Ints l al ml w)) (g0 : w.cell? ⟨B, 0, none⟩ = some (.int .i64 n)) (g1 : w.cell? ⟨B, 1, none⟩ = some (.slice a m c)) :
    Calls Try.prog 51 #[.slice al ml cl, .func (.func 42) #[] #[.pointer (some ⟨B, 0, none⟩)]] w fun e w' => ∃ r : Int, e = .returned (.int .i64 r) ∧ -1 ≤ r ∧ decide (0 ≤ r) = !okL m l ∧ Below w.heap.size w w' := by
  have HBr := Lib.hid (Below.refl w.heap.size w)
  have hl2 : (ml : Int) ≤ 4000000 := by omega
  go_enter Try.func51, Try.ntmps51
  go_wp2
  go_loopw [8] (fun i wr => ∃ k : Nat, k ≤ ml ∧ i = .int .i64 k ∧ Hid (∀ (j : Nat) x, j < k → l[j]? = some x → 0 ≤ x ∧ x < (m : Int)) ∧ Hid (Below w.heap.size w wr)) (fun i _ => ml - (RowKit.intOf i).toNat)
  case atStart => exact ⟨0, Nat.zero_le _, rfl, Lib.hid fun j _ h => by omega, HBr⟩
  case round =>
    obtain ⟨k, hk, rfl, HA, HB⟩ := hrel
    by_cases hlt : k < ml
    · obtain ⟨b, off, rfl, hc⟩ := HL.out (by omega)
      have hx0 : l[k]? = some (l[k]'(by omega)) := List.getElem?_eq_getElem (by omega)
      obtain ⟨x, hx⟩ : ∃ x, l[k]'(by omega) = x := ⟨_, rfl⟩
      rw [hx] at hx0
      have e1 := cell_on HB.out (hc k _ hx0)
      have hi0 : (0 : Int) ≤ (k : Int) := Int.natCast_nonneg _
      have hi1 : (k : Int) < (ml : Int) := by omega
      have HC := Lib.hid (pwrongI n a m c x B wr (cell_on HB.out g0) (cell_on HB.out g1))
      have hnb : nodeB m x = (decide (0 ≤ x) && decide (x < (m : Int))) := rfl
      cases hr : nodeB m x
      · have HN : Hid (okL m l = false) := Lib.hid (okL_no hx0 (fun ⟨y1, y2⟩ => by rw [hnb, decide_eq_true y1, decide_eq_true y2] at hr; cases hr))
        rw [hr] at HC
        clear hr hnb hx hx0 hc HL HA
        go_wp2_with (go_at_call 42; refine HC.out.mono ?_; rintro e w1 ⟨rfl, hB⟩; have HB1 := Lib.hid (on_trans HB.out hB); clear hB HC)
        go_ret
        exact ⟨_, rfl, by omega, by rw [HN.out, decide_eq_true (by omega)]; rfl, HB1.out⟩
      · have hxx : 0 ≤ x ∧ x < (m : Int) := by simpa [hnb] using hr
        have HN : Hid (∀ (j : Nat) y, j < k + 1 → l[j]? = some y → 0 ≤ y ∧ y < (m : Int)) := Lib.hid fun j y hj hy => by
          by_cases e : j = k
          · subst e
            rw [hx0] at hy
            obtain rfl := Option.some.inj hy
            exact hxx
          · exact HA.out j y (by omega) hy
        rw [hr] at HC
        clear hr hnb hx hx0 hc HL HA hxx
        go_wp2_with (go_at_call 42; refine HC.out.mono ?_; rintro e w1 ⟨rfl, hB⟩; have HB1 := Lib.hid (on_trans HB.out hB); clear hB HC)
        go_roundw
        case rel => exact ⟨k + 1, by omega, by go_num, HN, HB1⟩
        case measure => simp [RowKit.intOf] <;> omega
    · obtain rfl : k = ml := by omega
      have HN : Hid (okL m l = true) := Lib.hid (okL_yes fun j x hj hx => HA.out j x (by omega) hx)
      go_wp2
      go_ret
      exact ⟨_, rfl, by omega, by rw [HN.out, decide_eq_false (by omega)]; rfl, HB.out⟩
set_option maxHeartbeats 400000 in
theorem pconI_any (n : Int) (a : Option Addr) (m c : Nat) (B : Nat) (l : List Int) (al : Option Addr) (ml cl : Nat) (hl : l.length = ml) (hl1 : ml ≤ 4000000) (w : World) (HL : Hid (Ints l al ml w)) (g0 : w.cell? ⟨B, 0, none⟩ = some (.int .i64 n)) (g1 : w.cell? ⟨B, 1, none⟩ = some (.slice a m c)) :
    Calls Try.prog 45 #[.slice al ml cl, .func (.func 42) #[] #[.pointer (some ⟨B, 0, none⟩)]] w fun e w' => e = .returned (.bool (!okL m l)) ∧ Below w.heap.size w w' := by
  have HC := Lib.hid (pidxI_any n a m c B l al ml cl hl hl1 w HL g0 g1)
  generalize (!okL m l) = r0 at HC ⊢
  go_enter Try.func45, Try.ntmps45
  go_wp2_with (go_at_call 51; refine HC.out.mono ?_; rintro e w1 ⟨r, rfl, hr1, hr2, hB⟩; have HB := Lib.hid hB; clear hB)
  go_ret
  exact ⟨by rw [← hr2]; rfl, HB.out⟩
set_option maxHeartbeats 400000 in
/-- usable's second closure: is a list's number none of an edge? -/
theorem pwrongL (v : Value) (B C : Nat) (q : Bool) (w : World) (g0 : w.cell? ⟨C, 0, none⟩ = some (.func (.func 42) #[] #[.pointer (some ⟨B, 0, none⟩)]))
    (HC : Hid (Calls Try.prog 45 #[v, .func (.func 42) #[] #[.pointer (some ⟨B, 0, none⟩)]] w fun e w' => e = .returned (.bool (!q)) ∧ Below w.heap.size w w')) :
    Calls Try.prog 44 #[v, .pointer (some ⟨C, 0, none⟩)] w fun e w' => e = .returned (.bool (!q)) ∧ Below w.heap.size w w' := by
  go_enter Try.func44, Try.ntmps44
  go_wp2_with (go_at_call 45; refine HC.out.mono ?_; rintro e w1 ⟨rfl, hB⟩; have HB1 := Lib.hid hB; clear hB HC)
  go_ret
  exact ⟨rfl, HB1.out⟩
set_option maxHeartbeats 1000000 in
theorem pidxL_any (vs : List Value) (qs : List Bool) (C b m c : Nat) (hv : vs.length = m) (hq : qs.length = m) (hm : m ≤ 1000) (w : World) (HV : Hid (∀ (j : Nat) v, vs[j]? = some v → w.cell? ⟨b, j, none⟩ = some v))
    (HC : Hid (∀ W, Below w.heap.size w W → ∀ (j : Nat) v q, vs[j]? = some v → qs[j]? = some q → Calls Try.prog 44 #[v, .pointer (some ⟨C, 0, none⟩)] W fun e w' => e = .returned (.bool (!q)) ∧ Below W.heap.size W w')) :
    Calls Try.prog 56 #[.slice (some ⟨b, 0, none⟩) m c, .func (.func 44) #[] #[.pointer (some ⟨C, 0, none⟩)]] w fun e w' => ∃ r : Int, e = .returned (.int .i64 r) ∧ -1 ≤ r ∧ decide (0 ≤ r) = !qs.all id ∧ Below w.heap.size w w' := by
  have HBr := Lib.hid (Below.refl w.heap.size w)
  have hm1 : (m : Int) ≤ 1000 := by omega
  go_enter Try.func56, Try.ntmps56
  go_wp2
  go_loopw [8] (fun i wr => ∃ k : Nat, k ≤ m ∧ i = .int .i64 k ∧ Hid ((qs.take k).all id = true) ∧ Hid (Below w.heap.size w wr)) (fun i _ => m - (RowKit.intOf i).toNat)
  case atStart => exact ⟨0, Nat.zero_le _, rfl, Lib.hid rfl, HBr⟩
  case round =>
    obtain ⟨k, hk, rfl, HA, HB⟩ := hrel
    by_cases hlt : k < m
    · have hx0 : vs[k]? = some (vs[k]'(by omega)) := List.getElem?_eq_getElem (by omega)
      have hy0 : qs[k]? = some (qs[k]'(by omega)) := List.getElem?_eq_getElem (by omega)
      obtain ⟨x, hx⟩ : ∃ x, vs[k]'(by omega) = x := ⟨_, rfl⟩
      obtain ⟨q, hqq⟩ : ∃ q, qs[k]'(by omega) = q := ⟨_, rfl⟩
      rw [hx] at hx0
      rw [hqq] at hy0
      have e1 := cell_on HB.out (HV.out k _ hx0)
      have hi0 : (0 : Int) ≤ (k : Int) := Int.natCast_nonneg _
      have hi1 : (k : Int) < (m : Int) := by omega
      have HK := Lib.hid (HC.out wr HB.out k x q hx0 hy0)
      have hT : qs.take (k + 1) = qs.take k ++ [q] := by rw [List.take_add_one, hy0]; rfl
      cases q
      · have HN : Hid (qs.all id = false) := Lib.hid (by rw [List.all_eq_false]; exact ⟨false, List.mem_of_getElem? hy0, by simp⟩)
        clear hx hqq hx0 hy0 HC HV HA hT
        go_wp2_with (go_at_call 44; refine HK.out.mono ?_; rintro e w1 ⟨rfl, hB⟩; have HB1 := Lib.hid (on_trans HB.out hB); clear hB HK)
        go_ret
        exact ⟨_, rfl, by omega, by rw [HN.out, decide_eq_true (by omega)]; rfl, HB1.out⟩
      · have HN : Hid ((qs.take (k + 1)).all id = true) := Lib.hid (by rw [hT, List.all_append, HA.out]; rfl)
        clear hx hqq hx0 hy0 HC HV HA hT
        go_wp2_with (go_at_call 44; refine HK.out.mono ?_; rintro e w1 ⟨rfl, hB⟩; have HB1 := Lib.hid (on_trans HB.out hB); clear hB HK)
        go_roundw
        case rel => exact ⟨k + 1, by omega, by go_num, HN, HB1⟩
        case measure => simp [RowKit.intOf] <;> omega
    · obtain rfl : k = m := by omega
      have HN : Hid (qs.all id = true) := Lib.hid (by have := HA.out; rwa [List.take_of_length_le (by omega)] at this)
      go_wp2
      go_ret
      exact ⟨_, rfl, by omega, by rw [HN.out, decide_eq_false (by omega)]; rfl, HB.out⟩
set_option maxHeartbeats 400000 in
theorem pconL_any (vs : List Value) (qs : List Bool) (C b m c : Nat) (hv : vs.length = m) (hq : qs.length = m) (hm : m ≤ 1000) (w : World) (HV : Hid (∀ (j : Nat) v, vs[j]? = some v → w.cell? ⟨b, j, none⟩ = some v))
    (HC : Hid (∀ W, Below w.heap.size w W → ∀ (j : Nat) v q, vs[j]? = some v → qs[j]? = some q → Calls Try.prog 44 #[v, .pointer (some ⟨C, 0, none⟩)] W fun e w' => e = .returned (.bool (!q)) ∧ Below W.heap.size W w')) :
    Calls Try.prog 47 #[.slice (some ⟨b, 0, none⟩) m c, .func (.func 44) #[] #[.pointer (some ⟨C, 0, none⟩)]] w fun e w' => e = .returned (.bool (!qs.all id)) ∧ Below w.heap.size w w' := by
  have HK := Lib.hid (pidxL_any vs qs C b m c hv hq hm w HV HC)
  clear HC HV
  generalize (!qs.all id) = r0 at HK ⊢
  go_enter Try.func47, Try.ntmps47
  go_wp2_with (go_at_call 56; refine HK.out.mono ?_; rintro e w1 ⟨r, rfl, hr1, hr2, hB⟩; have HB := Lib.hid hB; clear hB)
  go_ret
  exact ⟨by rw [← hr2]; rfl, HB.out⟩
end Go.Proofs.Ytifljelphniipaa
