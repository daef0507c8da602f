import Derived.Test.YtlecidgfchaonaaDoorMR
set_option linter.unusedVariables false
set_option linter.unusedSimpArgs false
namespace Go.Proofs.YtlecidgfchaonaaDoor
open Go.RowKit Go.Sort Go.Lib
attribute [local go_sem ↓] Go.wp_at_zero Go.wp_at_succ
set_option maxHeartbeats 1000000 in
theorem pprint6_no (n : Int) (E : Value) (F : Int) (hF : F ≠ 0) (w : World)
    (HR : Hid (∀ W, Below w.heap.size w W → Calls Tryd.prog 19 #[.agg #[.int .i64 n, E]] W fun e w' => e = .returned (.int .i64 F) ∧ Below W.heap.size W w')) :
    Calls Tryd.prog 10 #[.agg #[.int .i64 n, E]] w fun e w' => e = .returned (.tuple #[.string ⟨#[]⟩, .int .i64 1]) ∧ Below w.heap.size w w' := by
  have HB0 := Lib.hid ((Below.refl w.heap.size w).alloc (Nat.le_refl _) (.cells #[.int .i64 n, E] 24))
  have hne : (F != 0) = true := by rw [bne_iff_ne]; exact hF
  clear hF
  go_enter Tryd.func10, Tryd.ntmps10
  go_wp2_with (go_at_call 19; refine (HR.out _ HB0.out).mono ?_; rintro e w1 ⟨rfl, hB⟩; have HB1 := Lib.hid (on_trans HB0.out hB); clear hB HR)
  go_ret2
  exact ⟨rfl, HB1.out⟩
theorem head_J (N m : Nat) (hN : N < 18446744073709551616) (hm : m < 18446744073709551616) : (joinB (⟨#[103, 114, 97, 112, 104]⟩ :: digW [N, m])).size ≤ 1000 ∧ (headB N m).data.toList = [] ++ ((joinB (⟨#[103, 114, 97, 112, 104]⟩ :: digW [N, m])).data.toList ++ [10]) := by
  have e : (⟨#[103, 114, 97, 112, 104]⟩ : ByteArray) :: digW [N, m] = headW N m := by simp [digW, headW]
  rw [e]
  refine ⟨?_, by rw [List.nil_append]; exact head_data N m⟩
  unfold headW
  rw [join3_size]
  have h1 := dg_size N hN
  have h2 := dg_size m hm
  have : (⟨#[103, 114, 97, 112, 104]⟩ : ByteArray).size = 5 := rfl
  omega
theorem line_J (F T x : Nat) (hF : F < 18446744073709551616) (hT : T < 18446744073709551616) (hx : x < 18446744073709551616) : (joinB (⟨#[101]⟩ :: digW [F, T, x])).size ≤ 100 ∧ ∀ t, (addE t ⟨(F : Int), (T : Int), x⟩).data.toList = t.data.toList ++ ((joinB (⟨#[101]⟩ :: digW [F, T, x])).data.toList ++ [10]) := by
  have e : (⟨#[101]⟩ : ByteArray) :: digW [F, T, x] = lineW ⟨(F : Int), (T : Int), x⟩ := by simp [digW, lineW, edW]
  rw [e]
  refine ⟨?_, fun t => addE_data t _⟩
  unfold lineW edW
  rw [join4_size]
  simp only [Int.toNat_natCast]
  have h1 := dg_size F hF
  have h2 := dg_size T hT
  have h3 := dg_size x hx
  have : (⟨#[101]⟩ : ByteArray).size = 1 := rfl
  omega
set_option maxHeartbeats 4000000 in
theorem pprint6_right (N : Nat) (es : List Ed) (a : Option Addr) (m c : Nat) (hm : es.length = m) (hl : m ≤ 16384) (hN : N ≤ 4096) (hends : Hid (∀ e ∈ es, 0 ≤ e.f ∧ e.f < N ∧ 0 ≤ e.t ∧ e.t < N ∧ e.w ≤ 4294967296)) (w : World) (htab : Pow10 w)
    (HC : Hid (0 < m → ∃ b off, a = some ⟨b, off, none⟩ ∧ ∀ (j : Nat) e, es[j]? = some e → w.cell? ⟨b, off + j * 3, none⟩ = some (.int .i64 e.f) ∧ w.cell? ⟨b, off + j * 3 + 1, none⟩ = some (.int .i64 e.t) ∧ w.cell? ⟨b, off + j * 3 + 2, none⟩ = some (.int .u64 (e.w : Int))))
    (HR : Hid (∀ W, Below w.heap.size w W → Calls Tryd.prog 19 #[.agg #[.int .i64 (N : Int), .slice a m c]] W fun e w' => e = .returned (.int .i64 0) ∧ Below W.heap.size W w')) :
    Calls Tryd.prog 10 #[.agg #[.int .i64 (N : Int), .slice a m c]] w fun e w' => e = .returned (.tuple #[.string (textG N es), .int .i64 0]) ∧ Below w.heap.size w w' := by
  have HB0 := Lib.hid ((Below.refl w.heap.size w).alloc (Nat.le_refl _) (.cells #[.int .i64 (N : Int), .slice a m c] 24))
  have hm1 : (m : Int) ≤ 16384 := by omega
  have hN1 : (N : Int) ≤ 4096 := by omega
  have HcH := Lib.hid (fun W => headOf_any N (by omega) a m c (by omega) W)
  have htb := size_pos htab
  have HT := Lib.hid (fun W (hb : Below w.heap.size w W) => pow10_below htab hb htb)
  have HJ := Lib.hid (head_J N m (by omega) (by omega))
  have HCb : Hid (∀ b off (e : Ed), w.cell? ⟨b, off, none⟩ = some (.int .i64 e.f) → b < w.heap.size) := Lib.hid fun b off e h => World.block_lt_of_cell? w _ h
  have hmf : ∀ (fn : Fn) (first cap : Array Value) (w : World), (Instr.makeFunc fn first cap).run Tryd.prog w = .ok (.func fn first cap) w := fun _ _ _ _ => rfl
  clear htab
  go_enter Tryd.func10, Tryd.ntmps10
  go_wp2_with (first
    | (go_at_call 19; refine (HR.out _ HB0.out).mono ?_; rintro e w1 ⟨rfl, hB⟩; have b0 := cell_on hB (p := ⟨w.heap.size, 0, none⟩) (v := .int .i64 (N : Int)) (by simp); have b1 := cell_on hB (p := ⟨w.heap.size, 1, none⟩) (v := .slice a m c) (by simp); have HB1 := Lib.hid (on_trans HB0.out hB); have HW1 : Hid (w.heap.size < w1.heap.size) := Lib.hid (World.block_lt_of_cell? w1 _ b1); have HBu := Lib.hid ((Below.refl w1.heap.size w1).alloc (Nat.le_refl _) (.cells #[.pointer none, .slice none 0 0] 53)); have HI1 := Lib.hid (Lib.fresh_isBuilder 53 5 w1); have b0 := cell_on HBu.out b0; have b1 := cell_on HBu.out b1; clear hB HR)
    | (go_at_call 21; refine (HcH.out _).mono ?_; rintro e w2 ⟨b, rfl, hb, h0, h1, hB⟩; have Hc2 := Lib.hid (cells2 h0 h1); have HI2 := Lib.hid (is_on HI1.out hB); have HB2 := Lib.hid (on_trans HBu.out hB); have b2 := cell_on hB b1; have HZ2 : Hid (w1.heap.size < w2.heap.size) := Lib.hid (by have := hB.size; simp at this; omega); clear hB hb h0 h1 b0 b1 HcH HI1)
    | (go_at_call 25; refine (pline_any ⟨#[103, 114, 97, 112, 104]⟩ [N, m] 2 rfl (by omega) (by omega) (by intro u hu; simp at hu; omega) _ rfl HJ.out.1 b 2 w1.heap.size [] (by simp) _ (HT.out _ (on_trans HB1.out HB2.out)) HI2.out HZ2.out Hc2.out).mono ?_; rintro e w3 ⟨rfl, hA, hB⟩; have HA3 := Lib.hid hA; have b3 := cell_lt hB (show w.heap.size < w1.heap.size from HW1.out) b2; have HB3 := Lib.hid (HB2.out.trans hB); clear hA hB b2 HI2 Hc2 HZ2))
  have HA4 : Hid (Bat w1.heap.size w1.heap.size (Lib.byteCells (textK N m es 0).data.toList) w3) := Lib.hid (by
    have h1 := HA3.out
    rw [← HJ.out.2] at h1
    exact h1)
  have HL4 : Hid ((textK N m es 0).data.toList.length ≤ 1001 + 101 * 0) := Lib.hid (by
    have h1 : (textK N m es 0).data.toList = _ := HJ.out.2
    have h2 := HJ.out.1
    rw [Lib.size_eq] at h2
    rw [h1, List.nil_append, List.length_append]
    simp only [List.length_cons, List.length_nil]
    omega)
  clear HA3 HB2 HBu b3 HJ
  go_loopw [19] (fun i wr => ∃ k : Nat, k ≤ m ∧ i = .int .i64 k ∧ Hid (Bat w1.heap.size w1.heap.size (Lib.byteCells (textK N m es k).data.toList) wr) ∧ Hid (Below w1.heap.size w1 wr) ∧ Hid ((textK N m es k).data.toList.length ≤ 1001 + 101 * k)) (fun i _ => m - (RowKit.intOf i).toNat)
  case atStart => exact ⟨0, by omega, rfl, HA4, HB3, HL4⟩
  case round =>
    obtain ⟨k, hk, rfl, HA, HB, HL⟩ := hrel
    have HBw := Lib.hid (HB1.out.trans (HB.out.mono HB1.out.size))
    by_cases hkm : k < m
    · obtain ⟨b, off, rfl, hc⟩ := HC.out (by omega)
      have he0 : es[k]? = some (es[k]'(by omega)) := List.getElem?_eq_getElem (by omega)
      obtain ⟨⟨f, t, x⟩, he⟩ : ∃ e, es[k]'(by omega) = e := ⟨_, rfl⟩
      rw [he] at he0
      obtain ⟨e1, e2, e3⟩ := hc k _ he0
      simp only at e1 e2 e3
      obtain ⟨n1, n2, n3, n4, n5⟩ := hends.out ⟨f, t, x⟩ (he ▸ List.getElem_mem _)
      simp only at n1 n2 n3 n4 n5
      obtain ⟨F, rfl⟩ : ∃ F : Nat, f = F := ⟨f.toNat, by omega⟩
      obtain ⟨T, rfl⟩ : ∃ T : Nat, t = T := ⟨t.toNat, by omega⟩
      have hbs := HCb.out b _ ⟨F, T, x⟩ e1
      have e1 := cell_lt HBw.out (show b < w.heap.size from hbs) e1
      have e2 := cell_lt HBw.out (show b < w.heap.size from hbs) e2
      have e3 := cell_lt HBw.out (show b < w.heap.size from hbs) e3
      have HcE := Lib.hid (fun W => edgeOf_any F T x (by omega) (by omega) W)
      have HLJ := Lib.hid (line_J F T x (by omega) (by omega) (by omega))
      have HBa : Hid (Below wr.heap.size wr (wr.alloc (.cells #[.int .i64 (F : Int), .int .i64 (T : Int), .int .u64 (x : Int)] 43))) := Lib.hid ((Below.refl _ _).alloc (Nat.le_refl _) _)
      have HZ : Hid (w1.heap.size < wr.heap.size) := Lib.hid HA.out.lt
      have hi0 : (0 : Int) ≤ (k : Int) := Int.natCast_nonneg _
      have hi1 : (k : Int) < (m : Int) := by omega
      have HLS := Lib.hid (textK_succ (N := N) (m := m) he0)
      have HNs : Hid (∀ u ∈ [F, T, x], u < 18446744073709551616) := Lib.hid (by intro u hu; simp at hu; omega)
      clear he he0 hc HC HA4 HB3 HL4 n1 n2 n3 n4 n5 hbs
      go_wp2_with (first
        | (go_at_call 22; refine (HcE.out _).mono ?_; rintro e w4 ⟨b4, rfl, hb, h0, h1, h2, hB⟩; have Hc4 := Lib.hid (cells3 h0 h1 h2); have HB4 := Lib.hid (on_trans HBa.out hB); clear hB hb h0 h1 h2 HcE)
        | (go_at_call 25; refine (pline_any ⟨#[101]⟩ [F, T, x] 3 rfl (by omega) (by omega) HNs.out _ rfl (Nat.le_trans HLJ.out.1 (by omega)) b4 3 w1.heap.size (textK N m es k).data.toList (by have := HL.out; omega) _ (HT.out _ (HBw.out.trans (HB4.out.mono (by have := HBw.out.size; omega)))) (.inr (at_on HA.out HB4.out)) (Nat.lt_of_lt_of_le HZ.out HB4.out.size) Hc4.out).mono ?_; rintro e w5 ⟨rfl, hA, hB⟩; have HA5 := Lib.hid hA; have HB5 := Lib.hid hB; clear hA hB))
      have HA6 : Hid (Bat w1.heap.size w1.heap.size (Lib.byteCells (textK N m es (k + 1)).data.toList) w5) := Lib.hid (by
        rw [HLS.out, HLJ.out.2]
        exact HA5.out)
      have HL6 : Hid ((textK N m es (k + 1)).data.toList.length ≤ 1001 + 101 * (k + 1)) := Lib.hid (by
        have h2 := HLJ.out.1
        have h3 := HL.out
        rw [Lib.size_eq] at h2
        rw [HLS.out, HLJ.out.2, List.length_append, List.length_append]
        simp only [List.length_cons, List.length_nil]
        omega)
      have HB6 := Lib.hid (HB.out.trans ((HB4.out.mono (Nat.le_of_lt HZ.out)).trans HB5.out))
      clear HA5 HB5 HB4 Hc4 HBa HA HB HL HLJ HLS e1 e2 e3 HNs HZ HBw
      go_roundw
      case rel => exact ⟨k + 1, by omega, by go_num, HA6, HB6, HL6⟩
      case measure => simp [RowKit.intOf] <;> omega
    · obtain rfl : k = m := by omega
      have HX : Hid ((⟨(textK N k es k).data.toList.toArray⟩ : ByteArray) = textG N es) := Lib.hid (by
        have h2 : textK N k es k = textG N es := by unfold textK textG; rw [List.take_of_length_le (by omega), hm]
        rw [h2, Lib.mk_data])
      go_wp2_with (go_at_call 29; refine (Tryd.Builder_String_any_f w1.heap.size w1.heap.size (textK N k es k).data.toList _ (Lib.IsBuilderF.of (.inr HA.out)) (Nat.le_of_lt HA.out.lt)).mono ?_; rintro e w6 ⟨rfl, _, hB⟩; have HB7 := Lib.hid (HB1.out.trans ((HB.out.trans hB).mono HB1.out.size)); clear hB)
      go_ret2
      exact ⟨by rw [← HX.out]; rfl, HB7.out⟩
theorem pprint6_any (n : Int) {v : Value} {es : List Ed} (w : World) (hl : es.length ≤ 100000) (h : EdgesAt w v es) (htab : Pow10 w) :
    Calls Tryd.prog 10 #[.agg #[.int .i64 n, v]] w fun e w' => e = .returned (.tuple #[.string (gprintV n es), .int .i64 (gprintF n es)]) ∧ Below w.heap.size w w' := by
  have HR := Lib.hid (fun W (hB : Below w.heap.size w W) => pright_any n W (h.on hB))
  unfold gprintV gprintF
  by_cases h1 : rightF n es = 0
  · rw [if_pos h1, if_pos h1]
    rw [h1] at HR
    obtain ⟨a, c, rfl, g⟩ := edgesAt_flat h
    have hn : 1 ≤ n ∧ n ≤ 4096 ∧ es.length ≤ 16384 := by
      unfold rightF at h1
      split at h1
      · cases h1
      · split at h1
        · cases h1
        · omega
    obtain ⟨N, rfl⟩ : ∃ N : Nat, n = N := ⟨n.toNat, by omega⟩
    rw [Int.toNat_natCast]
    exact pprint6_right N es a es.length c rfl (by omega) (by omega) (Lib.hid fun e he => right_edges h1 e he) w htab (Lib.hid g) HR
  · rw [if_neg h1, if_neg h1]
    exact pprint6_no n v _ h1 w HR
end Go.Proofs.YtlecidgfchaonaaDoor
