import Derived.Test.YtifljelphniipaaPthB
set_option linter.unusedVariables false
set_option linter.unusedSimpArgs false
namespace Go.Proofs.Ytifljelphniipaa
open Go.RowKit
attribute [local go_sem ↓] Go.wp_at_zero Go.wp_at_succ
def lastI (l : List Int) : Int := l.getLast?.getD 0
theorem lastI_snoc (l : List Int) (x : Int) : lastI (l ++ [x]) = x := by simp [lastI]
/-- The nodes behind k edges. -/
def nodesK (es : List Ed) (l : List Int) (s : Int) : Nat → Option (List Int)
  | 0 => some [s]
  | k + 1 => (nodesK es l s k).bind fun out => (l[k]?).bind fun i => (es[i.toNat]?).bind fun e => if e.f = lastI out then some (out ++ [e.t]) else none
def nodesO (n : Int) (es : List Ed) (s : Int) (l : List Int) : Option (List Int) := if edF n es l = true ∧ 0 ≤ s ∧ s < n then nodesK es l s l.length else none
theorem nodesK_step {es : List Ed} {l : List Int} {s : Int} {k X : Nat} {out : List Int} {e : Ed} (h : nodesK es l s k = some out) (hx : l[k]? = some (X : Int)) (he : es[X]? = some e) : nodesK es l s (k + 1) = if e.f = lastI out then some (out ++ [e.t]) else none := by
  unfold nodesK
  rw [h, hx]
  simp only [Option.bind_some, Int.toNat_natCast, he]
theorem nodesK_none {es : List Ed} {l : List Int} {s : Int} {k : Nat} (h : nodesK es l s k = none) : ∀ m, k ≤ m → nodesK es l s m = none := by
  intro m hm
  induction m with
  | zero => rw [show k = 0 by omega] at h; exact h
  | succ m ih =>
    by_cases e : k = m + 1
    · rw [← e]; exact h
    · unfold nodesK
      rw [ih (by omega)]
      rfl
def intV (l : List Int) : List Value := l.map (Value.int .i64)
theorem intV_snoc (l : List Int) (x : Int) : intV (l ++ [x]) = intV l ++ [.int .i64 x] := by simp [intV]
theorem ints_own8 {w : World} {base : Nat} {ty : TypeId} {v : Value} {l : List Int} (h : w.ownsRow base ty 1 v l.length (intV l)) : IntsAt w v l := by
  have h' := h
  rcases h.2 with ⟨rfl, h0⟩ | ⟨g, cap, cur, rfl, _, _, hc, _⟩
  · exact ⟨none, 0, by rw [h0], by omega, fun h1 => by omega⟩
  · refine ⟨_, cap, rfl, hc, fun _ => ⟨g, 0, rfl, fun j x hx => ?_⟩⟩
    have hj : j < l.length := (List.getElem?_eq_some_iff.1 hx).1
    have e1 := h'.cellAt j (by simpa [intV] using hj)
    rw [Nat.zero_add, e1]
    simp [intV, hx]
theorem owns_fullI (w : World) (l : List Value) (base n : Nat) (e : TypeId) (hb : base ≤ w.heap.size) (hl : l.length = n) (hm : n ≤ maxLen) : (w.alloc (.cells l.toArray e)).ownsRow base e 1 (.slice (some ⟨w.heap.size, 0, none⟩) n n) n l :=
  ⟨by simp [hl], .inr ⟨w.heap.size, n, l.toArray, rfl, hb, heap_alloc_new w _, Nat.le_refl _, hm, by simp [hl], by rw [List.take_of_length_le (by simp; omega)]⟩⟩
set_option maxHeartbeats 1000000 in
theorem rnodes8_no (n s : Int) (E U : Value) (F : Bool) (hF : F = false ∨ s < 0 ∨ n ≤ s) (w : World)
    (HE : Hid (∀ W, Below w.heap.size w W → Calls Try.prog 34 #[.agg #[.int .i64 n, E], U] W fun e w' => e = .returned (.bool F) ∧ Below W.heap.size W w')) :
    Calls Try.prog 10 #[.agg #[.int .i64 n, E], .int .i64 s, U] w fun e w' => e = .returned (.tuple #[.slice none 0 0, .bool false]) ∧ Below w.heap.size w w' := by
  have HB0 := Lib.hid ((Below.refl w.heap.size w).alloc (Nat.le_refl _) (.cells #[.int .i64 n, E] 24))
  cases F
  · clear hF
    go_enter Try.func10, Try.ntmps10
    go_wp2_with (go_at_call 34; refine (HE.out _ HB0.out).mono ?_; rintro e w1 ⟨rfl, hB⟩; have HB1 := Lib.hid (on_trans HB0.out hB); clear hB HE)
    go_ret2
    exact ⟨rfl, HB1.out⟩
  · by_cases h1 : s < 0
    · have q1 : decide (s < 0) = true := decide_eq_true h1
      clear hF h1
      go_enter Try.func10, Try.ntmps10
      go_wp2_with (go_at_call 34; refine (HE.out _ HB0.out).mono ?_; rintro e w1 ⟨rfl, hB⟩; have HB1 := Lib.hid (on_trans HB0.out hB); clear hB HE)
      go_ret2
      exact ⟨rfl, HB1.out⟩
    · have q1 : decide (s < 0) = false := decide_eq_false h1
      have h2 : n ≤ s := by rcases hF with h | h | h; · cases h
                            · exact absurd h h1
                            · exact h
      have q2 : decide (n ≤ s) = true := decide_eq_true h2
      clear hF h1 h2
      go_enter Try.func10, Try.ntmps10
      go_wp2_with (go_at_call 34; refine (HE.out _ HB0.out).mono ?_; rintro e w1 ⟨rfl, hB⟩; have b0 := cell_on hB (p := ⟨w.heap.size, 0, none⟩) (v := .int .i64 n) (by simp); have HB1 := Lib.hid (on_trans HB0.out hB); clear hB HE)
      go_ret2
      exact ⟨rfl, HB1.out⟩
set_option maxHeartbeats 4000000 in
theorem rnodes8_some (n s : Int) (hs0 : 0 ≤ s) (hs1 : s < n) (es : List Ed) (a : Option Addr) (m c : Nat) (hm : es.length = m) (hm0 : m ≤ 100000) (l : List Int) (al : Option Addr) (ml cl : Nat) (hl : l.length = ml) (hl1 : ml ≤ 10000) (hok : okL m l = true) (w : World)
    (HC : Hid (0 < m → ∃ b off, a = some ⟨b, off, none⟩ ∧ ∀ (j : Nat) e, es[j]? = some e → w.cell? ⟨b, off + j * 3, none⟩ = some (.int .i64 e.f) ∧ w.cell? ⟨b, off + j * 3 + 1, none⟩ = some (.int .i64 e.t) ∧ w.cell? ⟨b, off + j * 3 + 2, none⟩ = some (.int .u64 (e.w : Int))))
    (HL : Hid (Ints l al ml w))
    (HE : Hid (∀ W, Below w.heap.size w W → Calls Try.prog 34 #[.agg #[.int .i64 n, .slice a m c], .slice al ml cl] W fun e w' => e = .returned (.bool true) ∧ Below W.heap.size W w')) :
    Calls Try.prog 10 #[.agg #[.int .i64 n, .slice a m c], .int .i64 s, .slice al ml cl] w fun e w' => ∃ v, e = .returned (.tuple #[v, .bool (nodesK es l s ml).isSome]) ∧ IntsAt w' v ((nodesK es l s ml).getD []) ∧ Below w.heap.size w w' := by
  have HB0 := Lib.hid ((Below.refl w.heap.size w).alloc (Nat.le_refl _) (.cells #[.int .i64 n, .slice a m c] 24))
  have HOk := Lib.hid (fun x (hx : x ∈ l) => okL_at hok hx)
  have q1 : decide (s < 0) = false := decide_eq_false (by omega)
  have q2 : decide (n ≤ s) = false := decide_eq_false (by omega)
  have hl2 : (ml : Int) ≤ 10000 := by omega
  have hm1 : (m : Int) ≤ 100000 := by omega
  obtain ⟨i0, hi, hz0, hz1, hz2⟩ := info_parts infoInt
  clear hok
  go_enter Try.func10, Try.ntmps10
  go_wp2_with (go_at_call 34; refine (HE.out _ HB0.out).mono ?_; rintro e w1 ⟨rfl, hB⟩; have b0 := cell_on hB (p := ⟨w.heap.size, 0, none⟩) (v := .int .i64 n) (by simp); have b1 := cell_on hB (p := ⟨w.heap.size, 1, none⟩) (v := .slice a m c) (by simp); have HB1 := Lib.hid (on_trans HB0.out hB); clear hB HE)
  have hPw : w.heap.size < w1.heap.size := World.block_lt_of_cell? w1 _ b1
  have HO0 : Hid ((w1.alloc (.cells #[.int .i64 s] 3)).ownsRow w1.heap.size 3 1 (.slice (some ⟨w1.heap.size, 0, none⟩) 1 1) (0 + 1) (intV [s])) := Lib.hid (owns_fullI w1 [.int .i64 s] w1.heap.size 1 3 (Nat.le_refl _) rfl (by unfold maxLen; omega))
  have HBa : Hid (Below w1.heap.size w1 (w1.alloc (.cells #[.int .i64 s] 3))) := Lib.hid ((Below.refl _ _).alloc (Nat.le_refl _) _)
  go_loopw [8, 9] (fun v i wr => ∃ (k : Nat) (out : List Int), k ≤ ml ∧ i = .int .i64 k ∧ out.length = k + 1 ∧ Hid (nodesK es l s k = some out) ∧ Hid (wr.ownsRow w1.heap.size 3 1 v (k + 1) (intV out)) ∧ Hid (Below w1.heap.size w1 wr)) (fun _ i _ => ml - (RowKit.intOf i).toNat)
  case atStart => exact ⟨0, [s], by omega, rfl, rfl, Lib.hid rfl, HO0, HBa⟩
  case round =>
    obtain ⟨k, out, hk, rfl, hout, HA, HO, HB⟩ := hrel
    obtain ⟨gg, cap, rfl, hg1, hg2⟩ := HO.out.form (by omega)
    by_cases hkm : k < ml
    · obtain ⟨bl, ol, rfl, hcl⟩ := HL.out (by omega)
      have hx0 : l[k]? = some (l[k]'(by omega)) := List.getElem?_eq_getElem (by omega)
      obtain ⟨xk, hxk⟩ : ∃ xk, l[k]'(by omega) = xk := ⟨_, rfl⟩
      rw [hxk] at hx0
      obtain ⟨z0, z1⟩ := HOk.out xk (List.mem_of_getElem? hx0)
      obtain ⟨X, rfl⟩ : ∃ X : Nat, xk = X := ⟨xk.toNat, by omega⟩
      obtain ⟨b, off, rfl, hc⟩ := HC.out (by omega)
      have he0 : es[X]? = some (es[X]'(by omega)) := List.getElem?_eq_getElem (by omega)
      obtain ⟨⟨f, t, x⟩, he⟩ : ∃ e, es[X]'(by omega) = e := ⟨_, rfl⟩
      rw [he] at he0
      obtain ⟨e1, e2, e3⟩ := hc X _ he0
      simp only at e1 e2 e3
      have e1 := cell_on HB.out (cell_on HB1.out e1)
      have e2 := cell_on HB.out (cell_on HB1.out e2)
      have e3 := cell_on HB.out (cell_on HB1.out e3)
      have e4 := cell_on HB.out (cell_on HB1.out (hcl k _ hx0))
      have g1 := cell_on HB.out b1
      obtain ⟨o0, y, rfl⟩ : ∃ o0 y, out = o0 ++ [y] := ⟨out.dropLast, out.getLast (by intro h; rw [h] at hout; simp at hout), (List.dropLast_concat_getLast _).symm⟩
      have hol : o0.length = k := by simpa using hout
      have e5 : wr.cell? ⟨gg, k, none⟩ = some (.int .i64 y) := by
        rw [HO.out.cellAt k (by omega)]
        rw [intV_snoc, List.getElem?_append_right (by simp [intV]; omega)]
        simp [intV, hol]
      have HS := Lib.hid (nodesK_step HA.out hx0 he0)
      rw [lastI_snoc] at HS
      have hi0 : (0 : Int) ≤ (k : Int) := Int.natCast_nonneg _
      have hi1 : (k : Int) < (ml : Int) := by omega
      have hPw' : w.heap.size < wr.heap.size := Nat.lt_of_lt_of_le hPw HB.out.size
      have hbw : b < wr.heap.size := World.block_lt_of_cell? wr _ e1
      have hblw : bl < wr.heap.size := World.block_lt_of_cell? wr _ e4
      clear hxk hx0 he he0 hc hcl HC HL HOk b0 b1 HO0 HBa
      by_cases hfy : f = y
      · subst hfy
        have q3 : (f != f) = false := by simp
        have HN : Hid (nodesK es l s (k + 1) = some (o0 ++ [f] ++ [t])) := Lib.hid (by rw [HS.out, if_pos rfl])
        have HBb := Lib.hid ((HB.out.alloc HB.out.size (.cells #[.int .i64 f, .int .i64 t, .int .u64 (x : Int)] 56)).drew.drew)
        have HOb := Lib.hid (((HO.out.alloc (.cells #[.int .i64 f, .int .i64 t, .int .u64 (x : Int)] 56)).drew).drew)
        have hsz := HB.out.size
        clear HS HA
        go_wp2
        go_region
        all_goals go_wp2
        all_goals go_region
        all_goals (go_wp2_with (at_builtin; refine wpList_append_lies _ rfl _ _ 25 rfl w1.heap.size 3 i0 (.int .i64 0) 1 8 Try.underlying25 hi hz0 hz1 hz2 rfl (by decide) _ _ _ rfl (HOb.out.alloc _) ⟨wr.heap.size + 1, 0, none⟩ 1 1 [.int .i64 t] rfl rfl ?c1 ?c2 (by omega) ?c3 ?c4 ?c5 _ rfl ?_))
        case c1 =>
          refine World.news_of_block (cs := #[.int .i64 t]) (t := 3) (fr := (0, 0)) ?_
          have := heap_alloc_new (wr.alloc (.cells #[.int .i64 f, .int .i64 t, .int .u64 (x : Int)] 56)) (.cells #[.int .i64 t] 3)
          rw [World.size_alloc] at this
          exact this
        case c2 => intro u hu; simp at hu; subst hu; rfl
        case c3 => unfold maxLen; omega
        case c4 => omega
        case c5 => simp; omega
        intro gg2 cap2 w5 hown hgrow hat hlt
        have HO5 : Hid (w5.ownsRow w1.heap.size 3 1 (.slice (some ⟨gg2, 0, none⟩) (k + 1 + 1) cap2) (k + 1 + 1) (intV (o0 ++ [f] ++ [t]))) := Lib.hid (by rw [intV_snoc]; exact hown)
        have HB5 := Lib.hid (below_growE (HBb.out.alloc HBb.out.size (.cells #[.int .i64 t] 3)) (Nat.le_refl _) (by simp; omega) (HOb.out.alloc (.cells #[.int .i64 t] 3)) hgrow)
        have hlen : (o0 ++ [f] ++ [t]).length = k + 1 + 1 := by simp [hol]
        clear hown hgrow hat hlt HO HB HBb HOb e1 e2 e3 e4 e5 g1
        go_wp2
        go_roundw
        case rel => exact ⟨k + 1, o0 ++ [f] ++ [t], by omega, by go_num, hlen, HN, HO5, HB5⟩
        case measure => simp [RowKit.intOf] <;> omega
      · have q3 : (f != y) = true := by rw [bne_iff_ne]; exact hfy
        have HN : Hid (nodesK es l s ml = none) := Lib.hid (nodesK_none (k := k + 1) (by rw [HS.out]; simp [hfy]) ml (by omega))
        clear HS hfy
        go_wp2
        go_region
        all_goals go_wp2
        all_goals go_region
        all_goals go_wp2
        all_goals go_ret2
        all_goals exact ⟨_, by rw [HN.out]; rfl, by rw [HN.out]; exact ints_nil _, HB1.out.trans (((HB.out.alloc HB.out.size _).drew.drew).mono HB1.out.size)⟩
    · obtain rfl : k = ml := by omega
      have HS : Hid (IntsAt wr (.slice (some ⟨gg, 0, none⟩) (k + 1) cap) out) := Lib.hid (ints_own8 (by rw [hout]; exact HO.out))
      have HZ := Lib.hid (HB1.out.trans (HB.out.mono HB1.out.size))
      go_wp2
      go_ret2
      exact ⟨_, by rw [HA.out]; rfl, by rw [HA.out]; exact HS.out, HZ.out⟩
end Go.Proofs.Ytifljelphniipaa
