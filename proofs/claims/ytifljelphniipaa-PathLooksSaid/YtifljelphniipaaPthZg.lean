import Derived.Test.YtifljelphniipaaPthZf
import Derived.Maps.OwnSet
set_option linter.unusedVariables false
set_option linter.unusedSimpArgs false
namespace Go.Proofs.Ytifljelphniipaa
open Go.RowKit Go.Maps
attribute [local go_sem ↓] Go.wp_at_zero Go.wp_at_succ
theorem lawI8 : Keyed Try.prog 3 := int_keyed Try.underlying3
theorem keyI8 {x : Int} (h : (Lit.int .i64 x).wf = true) : keyOf Try.prog 3 (.int .i64 x) = some (.int .i64 x) := keyOf_int_mk Try.underlying3 h
abbrev OwnsS (w : World) (b n : Nat) (D : DataW Unit) : Prop := w.ownsMap Try.prog 3 (unitElem (H := Unit)) b n D
/-- What the set of nodes that were visited holds, behind k of them. -/
def SetIs (out : List Int) (k : Nat) (D : DataW Unit) : Prop := Tidy D ∧ (∀ x : Int, Maps.has D (.int .i64 x) = hasB (out.take k) x) ∧ Maps.size D ≤ k ∧ (Maps.size D = k ↔ (out.take k).Nodup)
theorem setIs_zero (out : List Int) : SetIs out 0 (.map []) := ⟨tidy_empty, fun x => by simp [Maps.has, hasB], by simp [Maps.size], by simp [Maps.size]⟩
theorem setIs_succ {out : List Int} {k : Nat} {D : DataW Unit} {x : Int} (h : SetIs out k D) (hx : out[k]? = some x) (d : DataW Unit) : SetIs out (k + 1) (D.put (.int .i64 x) d) := by
  obtain ⟨hT, hH, hS, hN⟩ := h
  have ht : out.take (k + 1) = out.take k ++ [x] := by rw [List.take_add_one, hx]; rfl
  have hkey : WideAt.IsKeyLit (Lit.int .i64 x) := trivial
  refine ⟨hT.put hkey d, fun y => ?_, ?_, ?_⟩
  · by_cases e : y = x
    · subst e
      rw [has_put_same hT.isMap hkey, ht]
      exact ((hasB_iff _ _).2 (by simp)).symm
    · have hne : Lit.int .i64 y ≠ Lit.int .i64 x := fun q => e (by injection q)
      rw [has_put_other hne, hH y, ht]
      unfold hasB
      rw [List.any_append]
      have : decide (x = y) = false := decide_eq_false (fun q => e q.symm)
      simp [this]
  · rw [size_put hT]
    split <;> omega
  · rw [size_put hT, hH x, ht]
    rw [List.nodup_append]
    cases hb : hasB (out.take k) x
    · have hn : x ∉ out.take k := fun q => by rw [(hasB_iff _ _).2 q] at hb; cases hb
      simp only [Bool.false_eq_true, if_false]
      constructor
      · intro q
        exact ⟨hN.1 (by omega), by simp, fun a ha b hb => by simp at hb; subst hb; exact fun q => hn (q ▸ ha)⟩
      · intro q
        have := hN.2 q.1
        omega
    · have hn : x ∈ out.take k := (hasB_iff _ _).1 hb
      simp only [if_true]
      constructor
      · intro q; omega
      · intro q
        exact absurd rfl (q.2.2 x hn x (by simp))
theorem nodesK_all {es : List Ed} {l : List Int} {s : Int} {P : Int → Prop} (hs : P s) (he : ∀ e ∈ es, P e.t) : ∀ {k : Nat} {out : List Int}, nodesK es l s k = some out → ∀ x ∈ out, P x
  | 0, out, h, x, hx => by
    have : [s] = out := by simpa [nodesK] using h
    rw [← this] at hx
    obtain rfl : x = s := by simpa using hx
    exact hs
  | k + 1, out, h, x, hx => by
    unfold nodesK at h
    rw [Option.bind_eq_some_iff] at h
    obtain ⟨o1, h1, h⟩ := h
    rw [Option.bind_eq_some_iff] at h
    obtain ⟨i, h2, h⟩ := h
    rw [Option.bind_eq_some_iff] at h
    obtain ⟨e, h3, h⟩ := h
    split at h
    · obtain rfl := Option.some.inj h
      rw [List.mem_append] at hx
      rcases hx with hx | hx
      · exact nodesK_all hs he h1 x hx
      · obtain rfl : x = e.t := by simpa using hx
        exact he e (List.mem_of_getElem? h3)
    · cases h
/-- The nodes of a way are small numbers. -/
theorem nodesO_small {n s : Int} {es : List Ed} {l out : List Int} (h : nodesO n es s l = some out) : ∀ x ∈ out, 0 ≤ x ∧ x < 4096 := by
  unfold nodesO at h
  split at h
  · rename_i h1
    have h2 := right_ends (edF_ok h1.1).1
    exact nodesK_all (P := fun x => 0 ≤ x ∧ x < 4096) ⟨h1.2.1, by omega⟩ (fun e he => by have := h2.2.2.2 e he; omega) h
  · cases h
set_option maxHeartbeats 2000000 in
theorem psimple8_any (n s : Int) {v u : Value} {es : List Ed} {l : List Int} (hl : l.length ≤ 10000) (he : es.length ≤ 100000) (w : World) (h : EdgesAt w v es) (hi : IntsAt w u l) :
    Calls Try.prog 16 #[.agg #[.int .i64 n, v], .int .i64 s, u] w fun e w' => e = .returned (.bool (simpF n es s l)) ∧ Below w.heap.size w w' := by
  have HN := Lib.hid (fun W (hB : Below w.heap.size w W) => pnodes8_any n s hl he W (h.on hB) (hi.on hB))
  obtain ⟨a, c, rfl, g⟩ := edgesAt_flat h
  obtain ⟨al, cl, rfl, _, _⟩ := hi
  have HB0 := Lib.hid ((Below.refl w.heap.size w).alloc (Nat.le_refl _) (.cells #[.int .i64 n, .slice a es.length c] 24))
  have hmm := @run_makeMap Try.prog
  unfold simpF
  cases hO : nodesO n es s l with
  | none =>
    rw [hO] at HN
    simp only [Option.isSome_none, Option.getD_none] at HN ⊢
    clear g h
    go_enter Try.func16, Try.ntmps16
    go_wp2_with (go_at_call 9; refine (HN.out _ HB0.out).mono ?_; rintro e w1 ⟨v1, rfl, hI, hB⟩; obtain ⟨a1, c1, rfl, _, _⟩ := hI; have HB1 := Lib.hid (on_trans HB0.out hB); clear hB HN)
    refine wp_loop_rounds 1 ?_
    rw [rounds_succ]
    have HZ := Lib.hid (HB1.out.alloc HB1.out.size (.map #[] 0))
    go_wp2
    go_ret
    exact ⟨rfl, HZ.out⟩
  | some out =>
    rw [hO] at HN
    simp only [Option.isSome_some, Option.getD_some] at HN ⊢
    have HW := Lib.hid (nodesO_small hO)
    obtain ⟨m, hm⟩ : ∃ m, l.length = m := ⟨_, rfl⟩
    have hout := nodesO_len hO
    rw [hm] at HN hout ⊢
    have hm1 : (m : Int) ≤ 10000 := by omega
    have HOp : Hid (∀ W v', IntsAt W v' out → ∃ b off c', v' = .slice (some ⟨b, off, none⟩) (m + 1) c' ∧ ∀ (j : Nat) x, out[j]? = some x → W.cell? ⟨b, off + j, none⟩ = some (.int .i64 x)) := Lib.hid fun W v' hI => by
      obtain ⟨a', c', rfl, hc', k⟩ := hI
      obtain ⟨b, off, rfl, hc⟩ := k (by omega)
      exact ⟨b, off, c', by rw [hout], hc⟩
    clear g h hO hm hl
    go_enter Try.func16, Try.ntmps16
    go_wp2_with (go_at_call 9; refine (HN.out _ HB0.out).mono ?_; rintro e w1 ⟨v1, rfl, hI, hB⟩; obtain ⟨b, off, c1, rfl, hc⟩ := HOp.out _ _ hI; have HCl := Lib.hid hc; have HB1 := Lib.hid (on_trans HB0.out hB); clear hI hB HN HOp hc)
    have HB2 := Lib.hid ((Below.refl w1.heap.size w1).alloc (Nat.le_refl _) (.map #[] 0))
    have HM2 : Hid (OwnsS (w1.alloc (.map #[] 0)) w1.heap.size 0 (.map [])) := Lib.hid (World.ownsMap_made _ _ _ _)
    go_loopw [22] (fun i wr => ∃ (k : Nat) (D : DataW Unit), k ≤ m + 1 ∧ i = .int .i64 k ∧ Hid (SetIs out k D) ∧ Hid (OwnsS wr w1.heap.size k D) ∧ Hid (Below w1.heap.size w1 wr)) (fun i _ => m + 1 - (RowKit.intOf i).toNat)
    case atStart => exact ⟨0, _, by omega, rfl, Lib.hid (setIs_zero out), HM2, HB2⟩
    case round =>
      obtain ⟨k, D, hk, rfl, HA, HM, HB⟩ := hrel
      have hi0 : (0 : Int) ≤ (k : Int) := Int.natCast_nonneg _
      by_cases hkm : k < m + 1
      · have hx0 : out[k]? = some (out[k]'(by omega)) := List.getElem?_eq_getElem (by omega)
        obtain ⟨x, hx⟩ : ∃ x, out[k]'(by omega) = x := ⟨_, rfl⟩
        rw [hx] at hx0
        have e0 := cell_on HB.out (HCl.out k x hx0)
        have hi1 : (k : Int) < (m : Int) + 1 := by omega
        have hxs := HW.out x (List.mem_of_getElem? hx0)
        have hkey : keyOf Try.prog 3 (.int .i64 x) = some (.int .i64 x) := keyI8 (WalkArith.wf_i64 (by omega))
        have HN2 := Lib.hid (setIs_succ HA.out hx0 (.agg []))
        have hsz : w1.heap.size ≤ wr.heap.size := HB.out.size
        clear hx hx0 HA hxs HM2 HB2
        go_wp2_with (at_mapUpdate; refine wpList_mapUpdate_own _ rfl _ _ _ 58 rfl 3 59 lawI8 Try.underlying58 unitElem w1.heap.size k D rfl HM.out (by unfold maxLen; omega) _ _ _ rfl rfl hkey (.agg []) [] unitElem_mk ?_; intro w2 hown2 hgrow2; have HM3 := Lib.hid hown2; have HB3 := Lib.hid (HB.out.grown hgrow2 (by omega) (fun j hj => by cases hj; exact Nat.le_refl _)); clear hown2 hgrow2 HM HB)
        go_roundw
        case rel => exact ⟨k + 1, _, by omega, by go_num, HN2, HM3, HB3⟩
        case measure => simp [RowKit.intOf] <;> omega
      · obtain rfl : k = m + 1 := by omega
        have hlen := fun ty => HM.out.len (t := 58) Try.underlying58 ty
        have HS := HA.out.2.2
        rw [List.take_of_length_le (by omega)] at HS
        have hsz1 := HS.1
        have HQ : Hid (decide out.Nodup = decide (Maps.size D = m + 1)) := Lib.hid (by rw [decide_eq_decide]; exact HS.2.symm)
        generalize Maps.size D = z at hlen HS HQ hsz1
        have HZ := Lib.hid (HB1.out.trans (HB.out.mono HB1.out.size))
        clear HS HM2 HB2
        by_cases hz : z = m + 1
        · subst hz
          have HQ2 : Hid (decide out.Nodup = true) := Lib.hid (by rw [HQ.out]; simp)
          go_wp2
          go_ret
          exact ⟨by rw [HQ2.out]; simp, HZ.out⟩
        · have HQ2 : Hid (decide out.Nodup = false) := Lib.hid (by rw [HQ.out]; simp [hz])
          have hq : ((z : Int) == (m : Int) + 1) = false := by rw [beq_eq_false_iff_ne]; omega
          go_wp2
          go_ret
          exact ⟨by rw [HQ2.out]; simp <;> omega, HZ.out⟩
end Go.Proofs.Ytifljelphniipaa
