import Derived.Test.YtifljelphniipaaPthH
set_option linter.unusedVariables false
set_option linter.unusedSimpArgs false
namespace Go.Proofs.Ytifljelphniipaa
open Go.RowKit
attribute [local go_sem ↓] Go.wp_at_zero Go.wp_at_succ
set_option maxHeartbeats 1000000 in
theorem pwide_some (b1 o1 c1 b2 o2 c2 : Nat) (xs ys : List Nat) (hl : xs.length = ys.length) (hb : xs.length ≤ 4000000) (w : World)
    (h1 : Hid (∀ (j : Nat) x, xs[j]? = some x → w.cell? ⟨b1, o1 + j, none⟩ = some (.int .u64 (x : Int)))) (h2 : Hid (∀ (j : Nat) y, ys[j]? = some y → w.cell? ⟨b2, o2 + j, none⟩ = some (.int .u64 (y : Int)))) :
    Calls Try.prog 18 #[.slice (some ⟨b1, o1, none⟩) xs.length c1, .slice (some ⟨b2, o2, none⟩) ys.length c2] w fun e w' => e = .returned (.bool (decide (xs = ys))) ∧ Below w.heap.size w w' := by
  obtain ⟨n, hn⟩ : ∃ n, xs.length = n := ⟨_, rfl⟩
  have hn2 : ys.length = n := by omega
  rw [hn, hn2]
  go_enter Try.func18, Try.ntmps18
  go_wp2
  go_loopw [5] (fun i wr => ∃ k : Nat, k ≤ n ∧ i = .int .i64 k ∧ Hid (∀ j : Nat, j < k → xs[j]? = ys[j]?) ∧ Hid (Below w.heap.size w wr)) (fun i _ => n - (RowKit.intOf i).toNat)
  case atStart => exact ⟨0, Nat.zero_le _, rfl, Lib.hid fun j h => by omega, Lib.hid (Below.refl _ _)⟩
  case round =>
    obtain ⟨k, hk, rfl, HA, HB⟩ := hrel
    by_cases hlt : k < n
    · have hx0 : xs[k]? = some (xs[k]'(by omega)) := List.getElem?_eq_getElem (by omega)
      have hy0 : ys[k]? = some (ys[k]'(by omega)) := List.getElem?_eq_getElem (by omega)
      have e1 := cell_on HB.out (h1.out k _ hx0)
      have e2 := cell_on HB.out (h2.out k _ hy0)
      obtain ⟨x, hx⟩ : ∃ x, xs[k]'(by omega) = x := ⟨_, rfl⟩
      obtain ⟨y, hy⟩ : ∃ y, ys[k]'(by omega) = y := ⟨_, rfl⟩
      rw [hx] at e1 hx0
      rw [hy] at e2 hy0
      by_cases hxy : x = y
      · subst hxy
        have HN : Hid (∀ j : Nat, j < k + 1 → xs[j]? = ys[j]?) := Lib.hid fun j hj => by
          by_cases ej : j = k
          · rw [ej, hx0, hy0]
          · exact HA.out j (by omega)
        clear hx0 hy0 hx hy
        go_wp2
        go_region
        all_goals go_wp2
        all_goals go_roundw
        case rel => exact ⟨k + 1, by omega, by go_num, HN, Lib.hid HB.out.drew⟩
        case measure => simp [RowKit.intOf] <;> omega
      · have hne : ((x : Int) != (y : Int)) = true := by rw [bne_iff_ne]; omega
        have HN : Hid (decide (xs = ys) = false) := Lib.hid (decide_eq_false fun e => hxy (by rw [e, hy0] at hx0; exact (Option.some.inj hx0).symm))
        clear hx0 hy0 hx hy hxy
        go_wp2
        go_region
        all_goals go_wp2
        all_goals go_ret
        all_goals exact ⟨by rw [HN.out]; rfl, HB.out.drew⟩
    · obtain rfl : k = n := by omega
      have HN : Hid (decide (xs = ys) = true) := Lib.hid (decide_eq_true (List.ext_getElem? fun j => by
        by_cases hj : j < k
        · exact HA.out j hj
        · rw [List.getElem?_eq_none (by omega), List.getElem?_eq_none (by omega)]))
      go_wp2
      go_ret
      exact ⟨by rw [HN.out]; rfl, HB.out⟩
theorem pwide_none (a1 a2 : Option Addr) (c1 c2 : Nat) (w : World) :
    Calls Try.prog 18 #[.slice a1 0 c1, .slice a2 0 c2] w fun e w' => e = .returned (.bool true) ∧ Below w.heap.size w w' := by
  go_enter Try.func18, Try.ntmps18
  go_wp2
  refine wp_loop_rounds 1 ?_
  rw [rounds_succ]
  go_wp2
  go_ret
  exact ⟨rfl, Below.refl _ _⟩
theorem pwide_len (a1 a2 : Option Addr) (m1 m2 c1 c2 : Nat) (h : m1 ≠ m2) (w : World) :
    Calls Try.prog 18 #[.slice a1 m1 c1, .slice a2 m2 c2] w fun e w' => e = .returned (.bool false) ∧ Below w.heap.size w w' := by
  have hm : ((m1 : Int) != (m2 : Int)) = true := by rw [bne_iff_ne]; omega
  go_enter Try.func18, Try.ntmps18
  go_wp2
  go_ret
  exact ⟨rfl, Below.refl _ _⟩
theorem pwide_any {v1 v2 : Value} {xs ys : List Nat} (hl : xs.length ≤ 4000000) (w : World) (h1 : NatsAt w v1 xs) (h2 : NatsAt w v2 ys) :
    Calls Try.prog 18 #[v1, v2] w fun e w' => e = .returned (.bool (decide (xs = ys))) ∧ Below w.heap.size w w' := by
  obtain ⟨a1, c1, rfl, _, g1⟩ := h1
  obtain ⟨a2, c2, rfl, _, g2⟩ := h2
  by_cases hlen : xs.length = ys.length
  · by_cases h0 : xs.length = 0
    · have e1 := List.length_eq_zero_iff.1 h0
      have e2 := List.length_eq_zero_iff.1 (hlen ▸ h0 : ys.length = 0)
      subst e1 e2
      exact pwide_none a1 a2 c1 c2 w
    · obtain ⟨b1, o1, rfl, k1⟩ := g1 (by omega)
      obtain ⟨b2, o2, rfl, k2⟩ := g2 (by omega)
      exact pwide_some b1 o1 c1 b2 o2 c2 xs ys hlen hl w (Lib.hid k1) (Lib.hid k2)
  · have e : decide (xs = ys) = false := decide_eq_false fun h => hlen (by rw [h])
    rw [e]
    exact pwide_len a1 a2 _ _ c1 c2 hlen w
/-- highroadref01.Mod. -/
def pmodT (i n : Int) : Int := if n < 1 then 0 else if i.tmod n < 0 then wrap64 (i.tmod n + n) else i.tmod n
theorem pmodT_any (i n : Int) (h0 : -9223372036854775808 ≤ i) (h1 : i ≤ 9223372036854775807) (h2 : -9223372036854775808 ≤ n) (h3 : n ≤ 9223372036854775807) (w : World) :
    Calls Try.prog 30 #[.int .i64 i, .int .i64 n] w fun e w' => e = .returned (.int .i64 (pmodT i n)) ∧ w' = w := by
  by_cases h : n < 1
  · have e1 : pmodT i n = 0 := if_pos h
    rw [e1]
    clear e1
    go_enter Try.func30, Try.ntmps30
    go_wp2
    go_ret
    exact ⟨rfl, rfl⟩
  · by_cases hm : i.tmod n < 0
    · have e1 : pmodT i n = wrap64 (i.tmod n + n) := by unfold pmodT; rw [if_neg h, if_pos hm]
      rw [e1]
      clear e1
      go_enter Try.func30, Try.ntmps30
      go_wp2
      go_ret
      exact ⟨rfl, rfl⟩
    · have e1 : pmodT i n = i.tmod n := by unfold pmodT; rw [if_neg h, if_neg hm]
      rw [e1]
      clear e1
      go_enter Try.func30, Try.ntmps30
      go_wp2
      go_ret
      exact ⟨rfl, rfl⟩
theorem pmodT_emod (i n : Int) (h1 : 1 ≤ n) (h2 : n ≤ 1000000) : pmodT i n = i % n := by
  unfold pmodT wrap64
  rw [if_neg (by omega)]
  have e := Int.tmod_eq_emod (a := i) (b := n)
  have p := Int.emod_nonneg i (show n ≠ 0 by omega)
  have q := Int.emod_lt_of_pos i (show 0 < n by omega)
  have z : (n.natAbs : Int) = n := by omega
  split at e <;> split <;> omega
theorem pmod_any (i n : Int) (h0 : -9223372036854775808 ≤ i) (h1 : i ≤ 9223372036854775807) (h2 : 1 ≤ n) (h3 : n ≤ 1000000) (w : World) :
    Calls Try.prog 30 #[.int .i64 i, .int .i64 n] w fun e w' => e = .returned (.int .i64 (i % n)) ∧ Below w.heap.size w w' := by
  rw [← pmodT_emod i n h2 h3]
  exact (pmodT_any i n h0 h1 (by omega) (by omega) w).mono fun e w' ⟨e1, e2⟩ => ⟨e1, e2 ▸ Below.refl _ _⟩
end Go.Proofs.Ytifljelphniipaa
