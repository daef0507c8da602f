import Derived.Test.YtifljelphniipaaPthD
import Derived.Deep.RegionHeld3
set_option linter.unusedVariables false
set_option linter.unusedSimpArgs false
namespace Go.Proofs.Ytifljelphniipaa
open Go.RowKit
attribute [local go_sem ↓] Go.wp_at_zero Go.wp_at_succ
theorem edF_ok {n : Int} {es : List Ed} {l : List Int} (h : edF n es l = true) : rightF n es = 0 ∧ okL es.length l = true := by simpa [edF] using h
theorem rnodes8_any (n s : Int) {v u : Value} {es : List Ed} {l : List Int} (hl : l.length ≤ 10000) (he : es.length ≤ 100000) (w : World) (h : EdgesAt w v es) (hi : IntsAt w u l) :
    Calls Try.prog 10 #[.agg #[.int .i64 n, v], .int .i64 s, u] w fun e w' => ∃ v', e = .returned (.tuple #[v', .bool (nodesO n es s l).isSome]) ∧ IntsAt w' v' ((nodesO n es s l).getD []) ∧ Below w.heap.size w w' := by
  have HE := Lib.hid (fun W (hB : Below w.heap.size w W) => redges8_any n (by omega) he W (h.on hB) (hi.on hB))
  obtain ⟨a, c, rfl, g⟩ := edgesAt_flat h
  obtain ⟨al, cl, rfl, _, k⟩ := hi
  unfold nodesO
  cases hF : edF n es l
  · rw [if_neg (by simp)]
    rw [hF] at HE
    exact (rnodes8_no n s _ _ false (.inl rfl) w HE).mono fun e w' ⟨e1, e2⟩ => ⟨_, e1, ints_nil _, e2⟩
  · rw [hF] at HE
    by_cases h0 : 0 ≤ s ∧ s < n
    · rw [if_pos ⟨rfl, h0⟩]
      exact rnodes8_some n s h0.1 h0.2 es a es.length c rfl he l al l.length cl rfl hl (edF_ok hF).2 w (Lib.hid g) (Lib.hid k) HE
    · rw [if_neg (fun x => h0 x.2)]
      exact (rnodes8_no n s _ _ true (.inr (by omega)) w HE).mono fun e w' ⟨e1, e2⟩ => ⟨_, e1, ints_nil _, e2⟩
theorem nodesK_len {es : List Ed} {l : List Int} {s : Int} : ∀ {k : Nat} {out : List Int}, nodesK es l s k = some out → out.length = k + 1
  | 0, out, h => by
    have : [s] = out := by simpa [nodesK] using h
    rw [← this]; rfl
  | k + 1, out, h => by
    unfold nodesK at h
    rw [Option.bind_eq_some_iff] at h
    obtain ⟨o1, h1, h⟩ := h
    rw [Option.bind_eq_some_iff] at h
    obtain ⟨i, h2, h⟩ := h
    rw [Option.bind_eq_some_iff] at h
    obtain ⟨e, h3, h⟩ := h
    split at h
    · have := nodesK_len h1
      obtain rfl := Option.some.inj h
      simp [this]
    · cases h
theorem nodesO_len {n s : Int} {es : List Ed} {l out : List Int} (h : nodesO n es s l = some out) : out.length = l.length + 1 := by
  unfold nodesO at h
  split at h
  · exact nodesK_len h
  · cases h
theorem snoc_of {out : List Int} {k : Nat} (h : out.length = k + 1) : ∃ o0 y, out = o0 ++ [y] ∧ o0.length = k := by
  refine ⟨out.dropLast, out.getLast (by intro e; rw [e] at h; simp at h), (List.dropLast_concat_getLast _).symm, by rw [List.length_dropLast]; omega⟩
def isF (n : Int) (es : List Ed) (s t : Int) (l : List Int) : Bool := match nodesO n es s l with | none => false | some out => decide (lastI out = t)
set_option maxHeartbeats 1000000 in
theorem ris8_any (n s t : Int) {v u : Value} {es : List Ed} {l : List Int} (hl : l.length ≤ 10000) (he : es.length ≤ 100000) (w : World) (h : EdgesAt w v es) (hi : IntsAt w u l) :
    Calls Try.prog 15 #[.agg #[.int .i64 n, v], .int .i64 s, .int .i64 t, u] w fun e w' => e = .returned (.bool (isF n es s t l)) ∧ Below w.heap.size w w' := by
  have HN := Lib.hid (fun W (hB : Below w.heap.size w W) => rnodes8_any n s hl he W (h.on hB) (hi.on hB))
  obtain ⟨a, c, rfl, g⟩ := edgesAt_flat h
  obtain ⟨al, cl, rfl, _, _⟩ := hi
  have HB0 := Lib.hid ((Below.refl w.heap.size w).alloc (Nat.le_refl _) (.cells #[.int .i64 n, .slice a es.length c] 24))
  unfold isF
  cases hO : nodesO n es s l with
  | none =>
    rw [hO] at HN
    simp only [Option.isSome_none, Option.getD_none] at HN ⊢
    clear g h
    go_enter Try.func15, Try.ntmps15
    go_wp2_with (go_at_call 10; refine (HN.out _ HB0.out).mono ?_; rintro e w1 ⟨v1, rfl, hI, hB⟩; have HB1 := Lib.hid (on_trans HB0.out hB); clear hI hB HN)
    go_ret
    exact ⟨rfl, HB1.out⟩
  | some out =>
    rw [hO] at HN
    simp only [Option.isSome_some, Option.getD_some] at HN ⊢
    obtain ⟨m, hm⟩ : ∃ m, l.length = m := ⟨_, rfl⟩
    obtain ⟨o0, y, rfl, ho⟩ := snoc_of (nodesO_len hO)
    rw [lastI_snoc]
    have hlen : (o0 ++ [y]).length = m + 1 := by simp [ho, hm]
    have hm1 : (m : Int) ≤ 10000 := by omega
    have HOp : Hid (∀ W v', IntsAt W v' (o0 ++ [y]) → ∃ b off c', v' = .slice (some ⟨b, off, none⟩) (m + 1) c' ∧ W.cell? ⟨b, off + m, none⟩ = some (.int .i64 y)) := Lib.hid fun W v' hI => by
      obtain ⟨a', c', rfl, _, k⟩ := hI
      obtain ⟨b, off, rfl, hc⟩ := k (by omega)
      exact ⟨b, off, c', by rw [hlen], hc m y (by rw [List.getElem?_append_right (by omega)]; simp [ho, hm])⟩
    rw [hm] at HN ⊢
    clear g h hO ho hlen hm hl
    go_enter Try.func15, Try.ntmps15
    go_wp2_with (go_at_call 10; refine (HN.out _ HB0.out).mono ?_; rintro e w1 ⟨v1, rfl, hI, hB⟩; obtain ⟨b, off, c1, rfl, e0⟩ := HOp.out _ _ hI; have HB1 := Lib.hid (on_trans HB0.out hB); clear hI hB HN HOp)
    go_ret
    exact ⟨rfl, HB1.out⟩
/-- No node twice. -/
def simpF (n : Int) (es : List Ed) (s : Int) (l : List Int) : Bool := match nodesO n es s l with | none => false | some out => decide out.Nodup
theorem nodup_no {out : List Int} {k : Nat} {x : Int} (hx : out[k]? = some x) (h : hasB (out.take k) x = true) : ¬ out.Nodup := fun hn => by
  have h1 := (hasB_iff _ _).1 h
  obtain ⟨hk, rfl⟩ := List.getElem?_eq_some_iff.1 hx
  obtain ⟨i, hi, e⟩ := List.getElem_of_mem h1
  rw [List.getElem_take] at e
  rw [List.length_take] at hi
  rw [List.nodup_iff_pairwise_ne, List.pairwise_iff_getElem] at hn
  exact hn i k (by omega) hk (by omega) e
theorem nodup_yes {out : List Int} (h : ∀ (j : Nat) x, j < out.length → out[j]? = some x → hasB (out.take j) x = false) : out.Nodup := by
  rw [List.nodup_iff_pairwise_ne, List.pairwise_iff_getElem]
  intro i j hi hj hij e
  have h1 := h j out[j] hj (List.getElem?_eq_getElem hj)
  have h2 : hasB (out.take j) out[j] = true := (hasB_iff _ _).2 (by
    rw [← e]
    exact List.mem_take_iff_getElem.2 ⟨i, by omega, rfl⟩)
  rw [h1] at h2
  cases h2
set_option maxHeartbeats 2000000 in
theorem rsimple8_any (n s : Int) {v u : Value} {es : List Ed} {l : List Int} (hl : l.length ≤ 10000) (he : es.length ≤ 100000) (w : World) (h : EdgesAt w v es) (hi : IntsAt w u l) :
    Calls Try.prog 17 #[.agg #[.int .i64 n, v], .int .i64 s, u] w fun e w' => e = .returned (.bool (simpF n es s l)) ∧ Below w.heap.size w w' := by
  have HN := Lib.hid (fun W (hB : Below w.heap.size w W) => rnodes8_any n s hl he W (h.on hB) (hi.on hB))
  obtain ⟨a, c, rfl, g⟩ := edgesAt_flat h
  obtain ⟨al, cl, rfl, _, _⟩ := hi
  have HB0 := Lib.hid ((Below.refl w.heap.size w).alloc (Nat.le_refl _) (.cells #[.int .i64 n, .slice a es.length c] 24))
  unfold simpF
  cases hO : nodesO n es s l with
  | none =>
    rw [hO] at HN
    simp only [Option.isSome_none, Option.getD_none] at HN ⊢
    clear g h
    go_enter Try.func17, Try.ntmps17
    go_wp2_with (go_at_call 10; refine (HN.out _ HB0.out).mono ?_; rintro e w1 ⟨v1, rfl, hI, hB⟩; obtain ⟨a1, c1, rfl, _, _⟩ := hI; have HB1 := Lib.hid (on_trans HB0.out hB); clear hB HN)
    refine wp_loop_rounds 1 ?_
    rw [rounds_succ]
    go_wp2
    go_ret
    exact ⟨rfl, HB1.out⟩
  | some out =>
    rw [hO] at HN
    simp only [Option.isSome_some, Option.getD_some] at HN ⊢
    obtain ⟨m, hm⟩ : ∃ m, l.length = m := ⟨_, rfl⟩
    have hout := nodesO_len hO
    rw [hm] at HN hout ⊢
    have hm1 : (m : Int) ≤ 10000 := by omega
    have HOp : Hid (∀ W v', IntsAt W v' out → ∃ b off c', v' = .slice (some ⟨b, off, none⟩) (m + 1) c' ∧ m + 1 ≤ c' ∧ ∀ (j : Nat) x, out[j]? = some x → W.cell? ⟨b, off + j, none⟩ = some (.int .i64 x)) := Lib.hid fun W v' hI => by
      obtain ⟨a', c', rfl, hc', k⟩ := hI
      obtain ⟨b, off, rfl, hc⟩ := k (by omega)
      exact ⟨b, off, c', by rw [hout], by omega, hc⟩
    clear g h hO hm hl
    go_enter Try.func17, Try.ntmps17
    go_wp2_with (go_at_call 10; refine (HN.out _ HB0.out).mono ?_; rintro e w1 ⟨v1, rfl, hI, hB⟩; obtain ⟨b, off, c1, rfl, hc1, hc⟩ := HOp.out _ _ hI; have HCl := Lib.hid hc; have HB1 := Lib.hid (on_trans HB0.out hB); clear hI hB HN HOp hc)
    have HBr := Lib.hid (Below.refl w1.heap.size w1)
    have hc2 : (m : Int) + 1 ≤ (c1 : Int) := by omega
    go_loopw [9] (fun i wr => ∃ k : Nat, k ≤ m + 1 ∧ i = .int .i64 k ∧ Hid (∀ (j : Nat) x, j < k → out[j]? = some x → hasB (out.take j) x = false) ∧ Hid (Below w1.heap.size w1 wr)) (fun i _ => m + 1 - (RowKit.intOf i).toNat)
    case atStart => exact ⟨0, by omega, rfl, Lib.hid fun j x h => by omega, HBr⟩
    case round =>
      obtain ⟨k, hk, rfl, HA, HB⟩ := hrel
      by_cases hkm : k < m + 1
      · have hx0 : out[k]? = some (out[k]'(by omega)) := List.getElem?_eq_getElem (by omega)
        obtain ⟨x, hx⟩ : ∃ x, out[k]'(by omega) = x := ⟨_, rfl⟩
        rw [hx] at hx0
        have e0 := cell_on HB.out (HCl.out k x hx0)
        have hi0 : (0 : Int) ≤ (k : Int) := Int.natCast_nonneg _
        have hi1 : (k : Int) < (m : Int) + 1 := by omega
        have hi2 : (k : Int) ≤ (c1 : Int) := by omega
        have HH := Lib.hid (fun W (hb : Below wr.heap.size wr W) => has_some (out.take k) (some ⟨b, off, none⟩) k c1 x (by rw [List.length_take]; omega) (by omega) W (Lib.hid fun _ => ⟨b, off, rfl, fun j y hy => cell_on hb (cell_on HB.out (HCl.out j y (by rw [List.getElem?_take] at hy; split at hy; exact hy; cases hy)))⟩))
        cases hR : hasB (out.take k) x
        · rw [hR] at HH
          have HN : Hid (∀ (j : Nat) y, j < k + 1 → out[j]? = some y → hasB (out.take j) y = false) := Lib.hid fun j y hj hy => by
            by_cases e : j = k
            · subst e
              rw [hx0] at hy
              obtain rfl := Option.some.inj hy
              exact hR
            · exact HA.out j y (by omega) hy
          clear hx hx0 hR HA
          go_wp2
          go_region_held3 (fun w' => w'.cell? ⟨b, off + k, none⟩ = some (.int .i64 x)) (first | exact e0) (first | (go_at_call 35; refine (HH.out _ (by first | exact (Below.refl _ _).drew | exact Below.refl _ _)).mono ?_; rintro e w2 ⟨rfl, hw2⟩; obtain rfl := hw2.symm; clear HH))
          go_wp2
          go_roundw
          case rel => exact ⟨k + 1, by omega, by go_num, HN, Lib.hid HB.out.drew⟩
          case measure => simp [RowKit.intOf] <;> omega
        · rw [hR] at HH
          have HN : Hid (decide out.Nodup = false) := Lib.hid (decide_eq_false (nodup_no hx0 hR))
          clear hx hx0 hR HA
          go_wp2
          go_region_held3 (fun w' => w'.cell? ⟨b, off + k, none⟩ = some (.int .i64 x)) (first | exact e0) (first | (go_at_call 35; refine (HH.out _ (by first | exact (Below.refl _ _).drew | exact Below.refl _ _)).mono ?_; rintro e w2 ⟨rfl, hw2⟩; obtain rfl := hw2.symm; clear HH))
          go_wp2
          go_ret
          exact ⟨by rw [HN.out]; rfl, HB1.out.trans (HB.out.drew.mono HB1.out.size)⟩
      · obtain rfl : k = m + 1 := by omega
        have HN : Hid (decide out.Nodup = true) := Lib.hid (decide_eq_true (nodup_yes fun j x hj hx => HA.out j x (by omega) hx))
        go_wp2
        go_ret
        exact ⟨by rw [HN.out]; rfl, HB1.out.trans (HB.out.mono HB1.out.size)⟩
end Go.Proofs.Ytifljelphniipaa
