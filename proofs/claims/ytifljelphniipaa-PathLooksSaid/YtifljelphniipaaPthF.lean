import Derived.Test.YtifljelphniipaaPthE
set_option linter.unusedVariables false
set_option linter.unusedSimpArgs false
namespace Go.Proofs.Ytifljelphniipaa
open Go.RowKit
attribute [local go_sem ↓] Go.wp_at_zero Go.wp_at_succ
/-- What an edge of this number weighs, and what all of a list weigh. -/
def wtE (es : List Ed) (x : Int) : Nat := match es[x.toNat]? with | none => 0 | some e => e.w
def sumL (es : List Ed) (l : List Int) : Nat := (l.map (wtE es)).sum
theorem sumL_take (es : List Ed) {l : List Int} {k X : Nat} {e : Ed} (hx : l[k]? = some (X : Int)) (he : es[X]? = some e) : sumL es (l.take (k + 1)) = sumL es (l.take k) + e.w := by
  obtain ⟨hk, h⟩ := List.getElem?_eq_some_iff.1 hx
  unfold sumL
  rw [List.take_succ_eq_append_getElem hk, List.map_append, List.sum_append, h]
  simp [wtE, he]
theorem sumL_append (es : List Ed) (a b : List Int) : sumL es (a ++ b) = sumL es a + sumL es b := by
  unfold sumL
  rw [List.map_append, List.sum_append]
/-- Weight: what they weigh, of edges that may be. -/
def weightO (n : Int) (es : List Ed) (l : List Int) : Option Nat := if edF n es l = true then some (sumL es l % 18446744073709551616) else none
set_option maxHeartbeats 1000000 in
theorem rweight8_no (n : Int) (E U : Value) (w : World)
    (HE : Hid (∀ W, Below w.heap.size w W → Calls Try.prog 34 #[.agg #[.int .i64 n, E], U] W fun e w' => e = .returned (.bool false) ∧ Below W.heap.size W w')) :
    Calls Try.prog 12 #[.agg #[.int .i64 n, E], U] w fun e w' => e = .returned (.tuple #[.int .u64 0, .bool false]) ∧ Below w.heap.size w w' := by
  have HB0 := Lib.hid ((Below.refl w.heap.size w).alloc (Nat.le_refl _) (.cells #[.int .i64 n, E] 24))
  go_enter Try.func12, Try.ntmps12
  go_wp2_with (go_at_call 34; refine (HE.out _ HB0.out).mono ?_; rintro e w1 ⟨rfl, hB⟩; have HB1 := Lib.hid (on_trans HB0.out hB); clear hB HE)
  go_ret2
  exact ⟨rfl, HB1.out⟩
set_option maxHeartbeats 2000000 in
theorem rweight8_some (n : Int) (es : List Ed) (a : Option Addr) (m c : Nat) (hm : es.length = m) (hm0 : m ≤ 100000) (l : List Int) (al : Option Addr) (ml cl : Nat) (hl : l.length = ml) (hl1 : ml ≤ 100000) (hok : okL m l = true) (w : World)
    (HC : Hid (0 < m → ∃ b off, a = some ⟨b, off, none⟩ ∧ ∀ (j : Nat) e, es[j]? = some e → w.cell? ⟨b, off + j * 3, none⟩ = some (.int .i64 e.f) ∧ w.cell? ⟨b, off + j * 3 + 1, none⟩ = some (.int .i64 e.t) ∧ w.cell? ⟨b, off + j * 3 + 2, none⟩ = some (.int .u64 (e.w : Int))))
    (HL : Hid (Ints l al ml w))
    (HE : Hid (∀ W, Below w.heap.size w W → Calls Try.prog 34 #[.agg #[.int .i64 n, .slice a m c], .slice al ml cl] W fun e w' => e = .returned (.bool true) ∧ Below W.heap.size W w')) :
    Calls Try.prog 12 #[.agg #[.int .i64 n, .slice a m c], .slice al ml cl] w fun e w' => e = .returned (.tuple #[.int .u64 (sumL es l % 18446744073709551616 : Nat), .bool true]) ∧ Below w.heap.size w w' := by
  have HB0 := Lib.hid ((Below.refl w.heap.size w).alloc (Nat.le_refl _) (.cells #[.int .i64 n, .slice a m c] 24))
  have HOk := Lib.hid (fun x (hx : x ∈ l) => okL_at hok hx)
  have hl2 : (ml : Int) ≤ 100000 := by omega
  have hm1 : (m : Int) ≤ 100000 := by omega
  clear hok
  go_enter Try.func12, Try.ntmps12
  go_wp2_with (go_at_call 34; refine (HE.out _ HB0.out).mono ?_; rintro e w1 ⟨rfl, hB⟩; have b1 := cell_on hB (p := ⟨w.heap.size, 1, none⟩) (v := .slice a m c) (by simp); have HB1 := Lib.hid (on_trans HB0.out hB); clear hB HE)
  have HBr := Lib.hid (Below.refl w1.heap.size w1)
  go_loopw [6, 7] (fun s i wr => ∃ (k S : Nat), k ≤ ml ∧ i = .int .i64 k ∧ s = .int .u64 (S : Nat) ∧ S < 18446744073709551616 ∧ Hid (S = sumL es (l.take k) % 18446744073709551616) ∧ Hid (Below w1.heap.size w1 wr)) (fun _ i _ => ml - (RowKit.intOf i).toNat)
  case atStart => exact ⟨0, 0, by omega, rfl, rfl, by omega, Lib.hid rfl, HBr⟩
  case round =>
    obtain ⟨k, S, hk, rfl, rfl, hS, HS, HB⟩ := hrel
    by_cases hkm : k < ml
    · obtain ⟨bl, ol, rfl, hcl⟩ := HL.out (by omega)
      have hx0 : l[k]? = some (l[k]'(by omega)) := List.getElem?_eq_getElem (by omega)
      obtain ⟨xk, hxk⟩ : ∃ xk, l[k]'(by omega) = xk := ⟨_, rfl⟩
      rw [hxk] at hx0
      obtain ⟨z0, z1⟩ := HOk.out xk (List.mem_of_getElem? hx0)
      obtain ⟨X, rfl⟩ : ∃ X : Nat, xk = X := ⟨xk.toNat, by omega⟩
      obtain ⟨b, off, rfl, hc⟩ := HC.out (by omega)
      have he0 : es[X]? = some (es[X]'(by omega)) := List.getElem?_eq_getElem (by omega)
      obtain ⟨⟨f, t, x⟩, he⟩ : ∃ e, es[X]'(by omega) = e := ⟨_, rfl⟩
      rw [he] at he0
      have e3 := (hc X _ he0).2.2
      simp only at e3
      have e3 := cell_on HB.out (cell_on HB1.out e3)
      have e4 := cell_on HB.out (cell_on HB1.out (hcl k _ hx0))
      have g1 := cell_on HB.out b1
      have hi0 : (0 : Int) ≤ (k : Int) := Int.natCast_nonneg _
      have hi1 : (k : Int) < (ml : Int) := by omega
      have HN := Lib.hid (sumL_take es hx0 he0)
      have HS2 := Lib.hid (show (S + x) % 18446744073709551616 = sumL es (l.take (k + 1)) % 18446744073709551616 from by rw [HN.out, HS.out]; simp only; omega)
      have hz : (S + x) % 18446744073709551616 < 18446744073709551616 := Nat.mod_lt _ (by decide)
      have hw2 := guw_add S x
      obtain ⟨S2, hS2⟩ : ∃ S2, (S + x) % 18446744073709551616 = S2 := ⟨_, rfl⟩
      rw [hS2] at HS2 hz hw2
      clear hS2 HN HS hxk hx0 he he0 hc hcl HC HL HOk b1
      go_wp2
      go_region
      all_goals go_wp2
      all_goals go_roundw
      case rel => exact ⟨k + 1, S2, by omega, by go_num, rfl, hz, HS2, Lib.hid HB.out.drew⟩
      case measure => simp [RowKit.intOf] <;> omega
    · obtain rfl : k = ml := by omega
      have HN : Hid (sumL es l % 18446744073709551616 = S) := Lib.hid (by rw [HS.out, List.take_of_length_le (by omega)])
      go_wp2
      go_ret2
      exact ⟨by rw [HN.out]; rfl, HB1.out.trans (HB.out.mono HB1.out.size)⟩
theorem rweight8_any (n : Int) {v u : Value} {es : List Ed} {l : List Int} (hl : l.length ≤ 10000) (he : es.length ≤ 100000) (w : World) (h : EdgesAt w v es) (hi : IntsAt w u l) :
    Calls Try.prog 12 #[.agg #[.int .i64 n, v], u] w fun e w' => e = .returned (.tuple #[.int .u64 ((weightO n es l).getD 0 : Nat), .bool (weightO n es l).isSome]) ∧ Below w.heap.size w w' := by
  have HE := Lib.hid (fun W (hB : Below w.heap.size w W) => redges8_any n (by omega) he W (h.on hB) (hi.on hB))
  obtain ⟨a, c, rfl, g⟩ := edgesAt_flat h
  obtain ⟨al, cl, rfl, _, k⟩ := hi
  unfold weightO
  cases hF : edF n es l
  · rw [if_neg (by simp)]
    rw [hF] at HE
    exact rweight8_no n _ _ w HE
  · rw [if_pos rfl]
    rw [hF] at HE
    exact rweight8_some n es a es.length c rfl he l al l.length cl rfl (by omega) (edF_ok hF).2 w (Lib.hid g) (Lib.hid k) HE
end Go.Proofs.Ytifljelphniipaa
