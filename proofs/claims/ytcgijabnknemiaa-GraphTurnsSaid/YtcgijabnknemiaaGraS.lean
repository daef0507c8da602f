import Derived.Test.YtcgijabnknemiaaGraR
import Derived.Deep.CutRange
import Derived.Deep.Cut
set_option linter.unusedVariables false
set_option linter.unusedSimpArgs false
namespace Go.Proofs.Ytcgijabnknemiaa
open Go.RowKit
attribute [local go_sem ↓] Go.wp_at_zero Go.wp_at_succ
theorem ints_form {w : World} {v : Value} {xs : List Int} (h : IntsAt w v xs) : ∃ a c, v = .slice a xs.length c := by
  obtain ⟨a, c, rfl, _⟩ := h
  exact ⟨a, c, rfl⟩
theorem ints_cell {w : World} {a : Option Addr} {n c : Nat} {xs : List Int} (h : IntsAt w (.slice a n c) xs) (h0 : 0 < xs.length) : ∃ b off, a = some ⟨b, off, none⟩ ∧ ∀ j x, xs[j]? = some x → w.cell? ⟨b, off + j, none⟩ = some (.int .i64 x) := by
  obtain ⟨a', c', e, _, g⟩ := h
  injection e with e1 e2 e3
  subst e1
  exact g h0
def L3 (w0 : World) (B P : Nat) (n : Int) (v z : Value) (es : List Ed) (w : World) : Prop := w.cell? ⟨B, 0, none⟩ = some (.int .i64 n) ∧ w.cell? ⟨B, 1, none⟩ = some v ∧ w.cell? ⟨P, 0, none⟩ = some (.int .i64 n) ∧ w.cell? ⟨P, 1, none⟩ = some z ∧ Hid (EdgesAt w v es) ∧ Hid (EdgesAt w z es) ∧ Hid (Below w0.heap.size w0 w)
theorem L3.on {w0 W w1 : World} {B P : Nat} {n : Int} {v z : Value} {es : List Ed} (hb : Below W.heap.size W w1) (h : L3 w0 B P n v z es W) : L3 w0 B P n v z es w1 :=
  ⟨cell_on hb h.1, cell_on hb h.2.1, cell_on hb h.2.2.1, cell_on hb h.2.2.2.1, Lib.hid (h.2.2.2.2.1.out.on hb), Lib.hid (h.2.2.2.2.2.1.out.on hb), Lib.hid (on_trans h.2.2.2.2.2.2.out hb)⟩
/-- Edges do not lie in a variable of two cells. -/
theorem edges_apart {w : World} {v : Value} {es : List Ed} (h : EdgesAt w v es) {Q : Nat} {x y : Value} {t : TypeId} (hQ : w.heap[Q]? = some (.cells #[x, y] t (0, 0))) (i j : Nat) (u u' : Value) : EdgesAt ((w.setCell ⟨Q, i, none⟩ u).setCell ⟨Q, j, none⟩ u') v es := by
  obtain ⟨a, c, rfl, hc, g⟩ := h
  refine ⟨a, c, rfl, hc, fun h0 => ?_⟩
  obtain ⟨b, off, rfl, hcell⟩ := g h0
  have hb : b ≠ Q := fun e => by
    have h1 := (hcell 0 _ (List.getElem?_eq_getElem h0)).2.2
    rw [e, cell_of_row w Q _ _ _ _ hQ] at h1
    have : (#[x, y] : Array Value)[off + 0 * 3 + 2]? = none := Array.getElem?_eq_none (by simp)
    rw [this] at h1
    cases h1
  have hk : ∀ (o : Nat) (z : Value), w.cell? ⟨b, o, none⟩ = some z → ((w.setCell ⟨Q, i, none⟩ u).setCell ⟨Q, j, none⟩ u').cell? ⟨b, o, none⟩ = some z := fun o z hz => by
    rw [World.cell?_setCell_other _ _ _ _ (fun e => hb (congrArg Addr.block e).symm), World.cell?_setCell_other _ _ _ _ (fun e => hb (congrArg Addr.block e).symm)]
    exact hz
  exact ⟨b, off, rfl, fun n e he => ⟨hk _ _ (hcell n e he).1, hk _ _ (hcell n e he).2.1, hk _ _ (hcell n e he).2.2⟩⟩
set_option maxRecDepth 20000 in
set_option maxHeartbeats 8000000 in
theorem backlaw_in (G : GSpec) (N : Nat) (es : List Ed) (a : Option Addr) (m c : Nat) (hm : es.length = m) (hl : lightB (N : Int) m = true) (h0 : rightF (N : Int) es = 0) (k : Int) (x : Nat) (w : World) (hE : EdgesAt w (.slice a m c) es) :
    Calls Try.prog 6 #[.agg #[.int .i64 N, .slice a m c], .int .i64 k, .int .u64 (x : Int)] w fun e w' => e = .returned (.bool true) ∧ Below w.heap.size w w' := by
  have hm3 : m ≤ 300 := by unfold lightB at hl; simp at hl; exact hl.2
  have hN4 := (right_iff.1 h0).2.1
  have hN1 := (right_iff.1 h0).1
  have hN3 : N ≤ 100 := by unfold lightB at hl; simp at hl; omega
  have hNp : 0 < N := by omega
  have HL := Lib.hid (fun W => light_any N a m c W)
  rw [hl] at HL
  have HA := Lib.hid (fun W => galive_any G W)
  have HR := Lib.hid (fun W h => G.right N (.slice a m c) es W h)
  rw [h0] at HR
  have HD := Lib.hid (fun W h => G.deg N (.slice a m c) es W h)
  rw [show degV (·.f) (N : Int) es = cntL N (·.f) es from by unfold degV; rw [if_pos h0, Int.toNat_natCast], show degV (·.t) (N : Int) es = cntL N (·.t) es from by unfold degV; rw [if_pos h0, Int.toNat_natCast]] at HD
  have HX1 : Hid (∀ y ∈ cntL N (·.f) es, 0 ≤ y ∧ y ≤ 300) := Lib.hid fun y hy => by
    obtain ⟨v, _, rfl⟩ := List.mem_map.1 hy
    have := cnt_le (·.f) es (v : Int)
    omega
  have HX2 : Hid (∀ y ∈ cntL N (·.t) es, 0 ≤ y ∧ y ≤ 300) := Lib.hid fun y hy => by
    obtain ⟨v, _, rfl⟩ := List.mem_map.1 hy
    have := cnt_le (·.t) es (v : Int)
    omega
  have HY1 : Hid ((cntL N (·.f) es).sum = m) := Lib.hid (by rw [cntL_sum N _ es fun e he => ⟨((right_iff.1 h0).2.2.2 e he).1, ((right_iff.1 h0).2.2.2 e he).2.1⟩, hm])
  have HY2 : Hid ((cntL N (·.t) es).sum = m) := Lib.hid (by rw [cntL_sum N _ es fun e he => ⟨((right_iff.1 h0).2.2.2 e he).2.2.1, ((right_iff.1 h0).2.2.2 e he).2.2.2.1⟩, hm])
  have HLN1 := Lib.hid (cntL_len N (·.f) es)
  have HLN2 := Lib.hid (cntL_len N (·.t) es)
  generalize cntL N (·.f) es = D1 at HD HX1 HY1 HLN1
  generalize cntL N (·.t) es = D2 at HD HX2 HY2 HLN2
  have hmk := mkBools N (by omega)
  have hB0 := (Below.refl w.heap.size w).alloc (Nat.le_refl _) (.cells #[.int .i64 N, .slice a m c] 24)
  have HLS : Hid (LS w w.heap.size N (.slice a m c) es (w.alloc (.cells #[.int .i64 N, .slice a m c] 24))) := Lib.hid ⟨by simp, by simp, Lib.hid (hE.on hB0), Lib.hid hB0⟩
  have H0 := Lib.hid h0
  have HM := Lib.hid hm
  clear hB0 hE hm h0 hl
  go_enter Try.func6, Try.ntmps6
  go_wp2_with (first
    | (go_at_call 7; refine (HL.out _).mono ?_; rintro e w1 ⟨rfl, hB⟩; have HLS := Lib.hid (HLS.out.on hB); have b0 := HLS.out.1; have b1 := HLS.out.2.1; clear hB HL)
    | (go_at_call 9; refine (HR.out _ HLS.out.2.2.1.out).mono ?_; rintro e w2 ⟨rfl, hB⟩; have HLS := Lib.hid (HLS.out.on hB); clear b0 b1; have b0 := HLS.out.1; have b1 := HLS.out.2.1; clear hB HR)
    | (go_at_call 16; refine (HD.out _ HLS.out.2.2.1.out).mono ?_; rintro e w3 ⟨x1, x2, rfl, h1, h2, hB⟩; obtain ⟨p1, q1, rfl⟩ := ints_form h1; obtain ⟨p2, q2, rfl⟩ := ints_form h2; rw [HLN1.out] at h1; rw [HLN2.out] at h2; have HLS := Lib.hid (HLS.out.on hB); clear b0 b1; rw [HLN1.out, HLN2.out]; have b0 := HLS.out.1; have b1 := HLS.out.2.1; have ha := (Below.refl w3.heap.size w3).alloc (Nat.le_refl _) (.cells (falses N) 4); have b2 := cell_on ha b0; have HI1 := Lib.hid h1; have HI2 := Lib.hid h2; clear hB h1 h2 HD))
  obtain ⟨B, hB⟩ : ∃ B, w3.heap.size = B := ⟨_, rfl⟩
  have hwB : w.heap.size < B := by have := World.block_lt_of_cell? w3 _ b0; rw [hB] at this; exact this
  obtain ⟨W5, hW5⟩ : ∃ W5, w3.alloc (.cells (falses N) 4) = W5 := ⟨_, rfl⟩
  have HK0 : Hid (BArr W5 B (tillL N 0)) := Lib.hid (by rw [← hW5, ← hB]; exact BArr.made w3 N)
  have HS5 := Lib.hid (HLS.out.on ha)
  have hsz : B < W5.heap.size := by rw [← hW5, ← hB]; simp
  rw [hW5] at ha b2 HS5 ⊢
  rw [hB]
  obtain ⟨P1, O1, rfl, g1⟩ := ints_cell HI1.out (by rw [HLN1.out]; omega)
  obtain ⟨P2, O2, rfl, g2⟩ := ints_cell HI2.out (by rw [HLN2.out]; omega)
  have HG1 : Hid (∀ j y, D1[j]? = some y → w3.cell? ⟨P1, O1 + j, none⟩ = some (.int .i64 y)) := Lib.hid g1
  have HG2 : Hid (∀ j y, D2[j]? = some y → w3.cell? ⟨P2, O2 + j, none⟩ = some (.int .i64 y)) := Lib.hid g2
  have HA5 : Hid (Below B w3 W5) := Lib.hid (by rw [← hB]; exact ha)
  have HW3 : Hid (w3.heap.size = B) := Lib.hid hB
  clear g1 g2 hW5 HI1 HI2 b1 b2 hmk ha hB HS5
  go_loopw [9, 10, 12] (fun nn mm i wr => ∃ j : Nat, j ≤ N ∧ i = .int .i64 j ∧ nn = .int .i64 (D1.take j).sum ∧ mm = .int .i64 (D2.take j).sum ∧ Hid (BArr wr B (tillL N j)) ∧ Hid (Below B w3 wr)) (fun _ _ i _ => N - (RowKit.intOf i).toNat)
  case atStart => exact ⟨0, by omega, rfl, rfl, rfl, HK0, HA5⟩
  case round =>
    obtain ⟨j, hj, rfl, rfl, rfl, HK, HB⟩ := hrel
    have d0 := cell_lt HB.out (show w.heap.size < B from hwB) b0
    by_cases hjN : j < N
    · have hj0 : (0 : Int) ≤ (j : Int) := Int.natCast_nonneg _
      have hj1 : (j : Int) < (N : Int) := by omega
      have hl1 : D1[j]? = some (D1[j]'(by rw [HLN1.out]; exact hjN)) := List.getElem?_eq_getElem _
      have hl2 : D2[j]? = some (D2[j]'(by rw [HLN2.out]; exact hjN)) := List.getElem?_eq_getElem _
      obtain ⟨X, hX⟩ : ∃ X, D1[j]'(by rw [HLN1.out]; exact hjN) = X := ⟨_, rfl⟩
      obtain ⟨Y, hY⟩ : ∃ Y, D2[j]'(by rw [HLN2.out]; exact hjN) = Y := ⟨_, rfl⟩
      rw [hX] at hl1
      rw [hY] at hl2
      have e1 := cell_on (HW3.out.symm ▸ HB.out) (HG1.out j X hl1)
      have e2 := cell_on (HW3.out.symm ▸ HB.out) (HG2.out j Y hl2)
      obtain ⟨k1, k2⟩ := HK.out j _ (tillL_at hjN)
      have HK2 := Lib.hid (HK.out.set hjN)
      have HB2 : Hid (Below B w3 (wr.setCell ⟨B, j, none⟩ (.bool true))) := Lib.hid (HB.out.setCell (Nat.le_refl _) _)
      have HT1 := Lib.hid (take_sum hl1)
      have HT2 := Lib.hid (take_sum hl2)
      have n1 := sum_bound 300 (by omega) (D1.take j) fun y hy => HX1.out y (List.mem_of_mem_take hy)
      have n2 := sum_bound 300 (by omega) (D2.take j) fun y hy => HX2.out y (List.mem_of_mem_take hy)
      have hx := HX1.out X (List.mem_of_getElem? hl1)
      have hy := HX2.out Y (List.mem_of_getElem? hl2)
      have l1 : (D1.take j).length ≤ 100 := by rw [List.length_take]; omega
      have l2 : (D2.take j).length ≤ 100 := by rw [List.length_take]; omega
      obtain ⟨U, hU⟩ : ∃ U, (D1.take j).sum = U := ⟨_, rfl⟩
      obtain ⟨V, hV⟩ : ∃ V, (D2.take j).sum = V := ⟨_, rfl⟩
      rw [hU] at HT1 n1 ⊢
      rw [hV] at HT2 n2 ⊢
      have u0 : 0 ≤ U ∧ U ≤ 30000 := by omega
      have v0 : 0 ≤ V ∧ V ≤ 30000 := by omega
      have u1 := u0.1
      have u2 := u0.2
      have v1 := v0.1
      have v2 := v0.2
      have x1 := hx.1
      have x2 := hx.2
      have y1 := hy.1
      have y2 := hy.2
      clear hX hY hl1 hl2 HK HB n1 n2 hx hy l1 l2 hU hV u0 v0
      go_wp2
      go_roundw
      case rel => exact ⟨j + 1, by omega, by go_num, by rw [HT1.out]; try go_num, by rw [HT2.out]; try go_num, HK2, HB2⟩
      case measure => simp [RowKit.intOf] <;> omega
    · obtain rfl : j = N := by omega
      rw [List.take_of_length_le (by rw [HLN1.out]; exact Nat.le_refl _), List.take_of_length_le (by rw [HLN2.out]; exact Nat.le_refl _), HY1.out, HY2.out]
      have HS := Lib.hid (HLS.out.on (HW3.out.symm ▸ HB.out))
      have b0 := HS.out.1
      have b1 := HS.out.2.1
      have HQ := Lib.hid HK.out.all
      clear HK HB HG1 HG2 HA5 HK0 HX1 HX2 HY1 HY2 HLN1 HLN2 HLS d0
      obtain ⟨N, rfl⟩ : ∃ N : Nat, N = j := ⟨_, rfl⟩
      have HW := Lib.hid (fun W h => G.wth N (.slice a m c) es k x W h)
      have HE : Hid ((withV N es k x).1 ≠ 0 ∨ ∃ K : Nat, k = K ∧ K < m ∧ weightB x = true ∧ (withV N es k x).1 = 0 ∧ (withV N es k x).2.1 = N ∧ (withV N es k x).2.2.length = m ∧ (withV N es k x).2.2 = es.modify K fun e => ⟨e.f, e.t, x⟩) := Lib.hid (by
        by_cases hok : 0 ≤ k ∧ k < es.length ∧ weightB x = true
        · right
          have hv := withV_ok H0.out (k := k.toNat) (x := x) (by omega) hok.2.2
          rw [show ((k.toNat : Nat) : Int) = k by omega] at hv
          refine ⟨k.toNat, by omega, by have := HM.out; omega, hok.2.2, ?_, ?_, ?_, ?_⟩
          · rw [hv]
          · rw [hv]
          · rw [hv, List.length_modify]; exact HM.out
          · rw [hv]
        · exact .inl (withV_no H0.out hok))
      generalize (withV N es k x).1 = WF at HW HE
      generalize (withV N es k x).2.1 = WN at HW HE
      generalize (withV N es k x).2.2 = WE at HW HE
      obtain ⟨LW, hLW⟩ : ∃ LW, WE.length = LW := ⟨_, rfl⟩
      rw [hLW] at HE
      have HLW := Lib.hid hLW
      clear hLW
      have HNX := Lib.hid hN1
      clear hj hjN hN1 hN4 hsz hwB
      go_upto_if 77 with (go_at_call 23; refine (HW.out _ HS.out.2.2.1.out).mono ?_; rintro e w6 ⟨v6, rfl, h1, hB⟩; obtain ⟨s6, c6, rfl⟩ := edges_form h1; rw [HLW.out] at h1; rw [HLW.out]; have ha := (Below.refl w6.heap.size w6).alloc (Nat.le_refl _) (.cells #[.int .i64 WN, .slice s6 LW c6] 24); have HS := Lib.hid ((HS.out.on hB).on ha); have HQ := Lib.hid ((HQ.out.on hB).on ha); have HV : Hid (LS w w6.heap.size WN (.slice s6 LW c6) WE (w6.alloc (.cells #[.int .i64 WN, .slice s6 LW c6] 24))) := Lib.hid ⟨by simp, by simp, Lib.hid (h1.on ha), HS.out.2.2.2⟩; clear b0 b1; clear hB ha h1 HW)
      obtain ⟨W7, hW7⟩ : ∃ W7, w6.alloc (.cells #[.int .i64 WN, .slice s6 LW c6] 24) = W7 := ⟨_, rfl⟩
      obtain ⟨P6, hP6⟩ : ∃ P6, w6.heap.size = P6 := ⟨_, rfl⟩
      rw [hW7] at HS HQ HV ⊢
      rw [hP6] at HV ⊢
      clear hW7 hP6
      go_cut [] from 78 to 107 (fun wx => Hid (LS w w.heap.size N (.slice a m c) es wx) ∧ Hid (BoolsAt wx (.slice (some ⟨B, 0, none⟩) N N) (List.replicate N true)))
      case first =>
        rcases HE.out with h | ⟨K, rfl, hK, hx, rfl, rfl, hLm, rfl⟩
        · have hb : (WF == 0) = false := by rw [beq_eq_false_iff_ne]; exact h
          clear h
          go_wp2_with fail
          go_meet
          case rel => exact ⟨HS, HQ⟩
        · have hLm' := hLm.symm
          subst hLm'
          have hlen : (es.modify K fun e => (⟨e.f, e.t, x⟩ : Ed)).length = m := by rw [List.length_modify]; exact HM.out
          have hK' : K < es.length := by have := HM.out; omega
          have he0 : es[K]? = some (es[K]'hK') := List.getElem?_eq_getElem hK'
          obtain ⟨⟨f, t, y⟩, he⟩ : ∃ e, es[K]'hK' = e := ⟨_, rfl⟩
          rw [he] at he0
          have HWB := Lib.hid (withV_back H0.out he0 hx)
          have hxe : (es.modify K fun e => (⟨e.f, e.t, x⟩ : Ed))[K]? = some ⟨f, t, x⟩ := by rw [List.getElem?_modify, he0]; simp
          obtain ⟨a1, c1, e1, _, g1⟩ := HS.out.2.2.1.out
          injection e1 with e1 e2 e3
          subst e1 e3
          obtain ⟨b, off, rfl, h1⟩ := g1 (by omega)
          obtain ⟨a2, c2, e4, _, g2⟩ := HV.out.2.2.1.out
          injection e4 with e4 e5 e6
          subst e4 e6
          obtain ⟨b', off', rfl, h2⟩ := g2 (by rw [hlen]; omega)
          have k1 := (h1 K _ he0).2.2
          have k2 := (h2 K _ hxe).2.2
          simp only at k1 k2
          clear h1 h2 g1 g2 e2 e5 he he0 hxe hlen
          have HW2 := Lib.hid (fun W h => G.wth N (.slice (some ⟨b', off', none⟩) m c6) (es.modify K fun e => (⟨e.f, e.t, x⟩ : Ed)) K y W h)
          rw [HWB.out] at HW2
          have HSa := Lib.hid (fun W v (h1 : EdgesAt W v es) (h2 : EdgesAt W (.slice (some ⟨b, off, none⟩) m c) es) => G.same N N v (.slice (some ⟨b, off, none⟩) m c) es es W (by have := HM.out; omega) h1 h2)
          rw [decide_eq_true ⟨rfl, rfl⟩] at HSa
          have hk0 : (0 : Int) ≤ (K : Int) := Int.natCast_nonneg _
          have hk1 : (K : Int) < (m : Int) := by omega
          have F := fun (W' : World) (hb : Below W7.heap.size W7 W') => (⟨cell_on hb HV.out.1, cell_on hb HV.out.2.1, cell_on hb HS.out.1, cell_on hb HS.out.2.1, cell_on hb k1, cell_on hb k2, Lib.hid hb⟩ : W'.cell? ⟨P6, 0, none⟩ = some (.int .i64 (N : Int)) ∧ W'.cell? ⟨P6, 1, none⟩ = some (.slice (some ⟨b', off', none⟩) m c6) ∧ W'.cell? ⟨w.heap.size, 0, none⟩ = some (.int .i64 (N : Int)) ∧ W'.cell? ⟨w.heap.size, 1, none⟩ = some (.slice (some ⟨b, off, none⟩) m c) ∧ W'.cell? ⟨b, off + K * 3 + 2, none⟩ = some (.int .u64 (y : Int)) ∧ W'.cell? ⟨b', off' + K * 3 + 2, none⟩ = some (.int .u64 (x : Int)) ∧ Hid (Below W7.heap.size W7 W'))
          have HF := Lib.hid F
          have HZ := Lib.hid (fun (w' : World) (h : w'.cell? ⟨P6, 0, none⟩ = some (.int .i64 (N : Int)) ∧ w'.cell? ⟨P6, 1, none⟩ = some (.slice (some ⟨b', off', none⟩) m c6) ∧ w'.cell? ⟨w.heap.size, 0, none⟩ = some (.int .i64 (N : Int)) ∧ w'.cell? ⟨w.heap.size, 1, none⟩ = some (.slice (some ⟨b, off, none⟩) m c) ∧ w'.cell? ⟨b, off + K * 3 + 2, none⟩ = some (.int .u64 (y : Int)) ∧ w'.cell? ⟨b', off' + K * 3 + 2, none⟩ = some (.int .u64 (x : Int)) ∧ Hid (Below W7.heap.size W7 w')) => h.2.2.2.2.2.2.out)
          have HE1 := Lib.hid HS.out.2.2.1.out
          have HE2 := Lib.hid HV.out.2.2.1.out
          obtain ⟨Q, hQ⟩ : ∃ Q, W7.heap.size = Q := ⟨_, rfl⟩
          have hba : Below W7.heap.size W7 (W7.alloc (.cells #[.int .i64 0, .slice none 0 0] 24)).drew := ((Below.refl _ _).alloc (Nat.le_refl _) _).drew
          have P0 : (W7.alloc (.cells #[.int .i64 0, .slice none 0 0] 24)).drew.cell? ⟨Q, 0, none⟩ = some (.int .i64 0) := by simp [← hQ]
          have P1' : (W7.alloc (.cells #[.int .i64 0, .slice none 0 0] 24)).drew.cell? ⟨Q, 1, none⟩ = some (.slice none 0 0) := by simp [← hQ]
          have P2' : (W7.alloc (.cells #[.int .i64 0, .slice none 0 0] 24)).drew.frozen? ⟨Q, 0, none⟩ = false := by simp [← hQ]
          have P3' : (W7.alloc (.cells #[.int .i64 0, .slice none 0 0] 24)).drew.frozen? ⟨Q, 1, none⟩ = false := by simp [← hQ]
          have hQ2 := Nat.le_of_eq hQ
          have P4 : (W7.alloc (.cells #[.int .i64 0, .slice none 0 0] 24)).drew.heap[Q]? = some (.cells #[.int .i64 0, .slice none 0 0] 24 (0, 0)) := by rw [← hQ]; exact heap_alloc_new W7 _
          have P5 : Q < (W7.alloc (.cells #[.int .i64 0, .slice none 0 0] 24)).drew.heap.size := by simp [← hQ]
          clear F k1 k2
          go_wp2_with fail
          go_region_held3 (fun w' => w'.cell? ⟨P6, 0, none⟩ = some (.int .i64 (N : Int)) ∧ w'.cell? ⟨P6, 1, none⟩ = some (.slice (some ⟨b', off', none⟩) m c6) ∧ w'.cell? ⟨w.heap.size, 0, none⟩ = some (.int .i64 (N : Int)) ∧ w'.cell? ⟨w.heap.size, 1, none⟩ = some (.slice (some ⟨b, off, none⟩) m c) ∧ w'.cell? ⟨b, off + K * 3 + 2, none⟩ = some (.int .u64 (y : Int)) ∧ w'.cell? ⟨b', off' + K * 3 + 2, none⟩ = some (.int .u64 (x : Int)) ∧ Hid (Below W7.heap.size W7 w'))
            (first
              | exact HF.out _ (Below.refl _ _).drew
              | exact HF.out _ hba
              | exact HF.out _ (on_trans (HZ.out _ ‹_›) hB)
              | exact HF.out _ ((HZ.out _ ‹_›).alloc (HZ.out _ ‹_›).size _)
              | exact HF.out _ (((HZ.out w8 HS8).setCell hQ2 _).setCell hQ2 _))
            (first
              | (go_at_call 23; refine (HW2.out _ (HE2.out.on (HZ.out _ ‹_›))).mono ?_; rintro e w8 ⟨v8, rfl, h1, hB⟩; obtain ⟨s8, c8, rfl⟩ := edges_form h1; rw [HM.out] at h1; rw [HM.out]; have HE8 := Lib.hid h1; have HS8 := HF.out w8 (on_trans (HZ.out _ ‹_›) hB); first | (have p0 := cell_on hB P0; have p1 := cell_on hB P1'; have p2 := frozen_on hB P0 P2'; have p3 := frozen_on hB P1' P3'; have p4 := (hB.block Q P5).trans P4) | skip))
          · obtain ⟨W9, hW9⟩ : ∃ W9, w8.alloc (.cells #[.int .i64 (N : Int), .slice s8 m c8] 24) = W9 := ⟨_, rfl⟩
            have q0 : (w8.alloc (.cells #[.int .i64 (N : Int), .slice s8 m c8] 24)).cell? ⟨w8.heap.size, 0, none⟩ = some (.int .i64 (N : Int)) := by simp
            have q1 : (w8.alloc (.cells #[.int .i64 (N : Int), .slice s8 m c8] 24)).cell? ⟨w8.heap.size, 1, none⟩ = some (.slice s8 m c8) := by simp
            have E9 := HE8.out.on ((Below.refl w8.heap.size w8).alloc (Nat.le_refl _) (.cells #[.int .i64 (N : Int), .slice s8 m c8] 24))
            have B9 := (HZ.out w8 HS8).alloc (HZ.out w8 HS8).size (.cells #[.int .i64 (N : Int), .slice s8 m c8] 24)
            rw [hW9] at q0 q1 E9 B9 ⊢
            have q2 := cell_on B9 HS.out.1
            have q3 := cell_on B9 HS.out.2.1
            have q4 := (HF.out _ B9).2.1
            have q5 := (HF.out _ B9).2.2.2.2.2.1
            have HS9 := Lib.hid (HS.out.on B9)
            have HQ9 := Lib.hid (HQ.out.on B9)
            have HE9 := Lib.hid E9
            have HB9 := Lib.hid B9
            clear hW9 E9 B9 P0 P1' P2' P3' P4 P5 hba HS8 hB h1
            go_wp2_with (go_at_call 13; refine (HSa.out _ _ HE9.out HS9.out.2.2.1.out).mono ?_; rintro e w10 ⟨rfl, hB⟩; have HSt := Lib.hid (HS9.out.on hB); have HQt := Lib.hid (HQ9.out.on hB); have q4 := cell_on hB q4; have q5 := cell_on hB q5; clear hB)
            go_meet
            case rel => exact ⟨HSt, HQt⟩
          · obtain ⟨W9, hW9⟩ : ∃ W9, (w8.setCell ⟨Q, 0, none⟩ (.int .i64 (N : Int))).setCell ⟨Q, 1, none⟩ (.slice s8 m c8) = W9 := ⟨_, rfl⟩
            obtain ⟨q0, q1⟩ := set2_cells p0 p1 (.int .i64 (N : Int)) (.slice s8 m c8)
            have E9 := edges_apart HE8.out p4 0 1 (.int .i64 (N : Int)) (.slice s8 m c8)
            have B9 := ((HZ.out w8 HS8).setCell (p := ⟨Q, 0, none⟩) hQ2 (.int .i64 (N : Int))).setCell (p := ⟨Q, 1, none⟩) hQ2 (.slice s8 m c8)
            clear p0 p1 p2 p3 p4
            rw [hW9] at q0 q1 E9 B9 ⊢
            have q2 := cell_on B9 HS.out.1
            have q3 := cell_on B9 HS.out.2.1
            have q4 := (HF.out _ B9).2.1
            have q5 := (HF.out _ B9).2.2.2.2.2.1
            have HS9 := Lib.hid (HS.out.on B9)
            have HQ9 := Lib.hid (HQ.out.on B9)
            have HE9 := Lib.hid E9
            have HB9 := Lib.hid B9
            clear hW9 E9 B9 P0 P1' P2' P3' P4 P5 hba HS8 hB h1
            go_wp2_with (go_at_call 13; refine (HSa.out _ _ HE9.out HS9.out.2.2.1.out).mono ?_; rintro e w10 ⟨rfl, hB⟩; have HSt := Lib.hid (HS9.out.on hB); have HQt := Lib.hid (HQ9.out.on hB); have q4 := cell_on hB q4; have q5 := cell_on hB q5; clear hB)
            go_meet
            case rel => exact ⟨HSt, HQt⟩
      case rest =>
        obtain ⟨HS1, HQ1⟩ := hcut
        have hm0 := HM.out
        have HU := Lib.hid (fun W h h2 => G.sub N (.slice a m c) (.slice (some ⟨B, 0, none⟩) N N) es (List.replicate N true) W h h2)
        rw [subV_all H0.out] at HU
        have HV1 := Lib.hid (fun W (h : EdgesAt W (.slice a m c) es) => G.rev N (.slice a m c) es W h)
        rw [revV_yes H0.out] at HV1
        have HV2 := Lib.hid (fun W v (h : EdgesAt W v (es.map turnE)) => G.rev N v (es.map turnE) W h)
        rw [revV_back H0.out] at HV2
        have HT1 := Lib.hid (fun W v (h : EdgesAt W v (es.map turnE)) => G.total N v (es.map turnE) W (by rw [List.length_map]; omega) h)
        rw [totalV_turn H0.out] at HT1
        have HT2 := Lib.hid (fun W (h : EdgesAt W (.slice a m c) es) => G.total N (.slice a m c) es W (by omega) h)
        have HSa := Lib.hid (fun W v (h1 : EdgesAt W v es) (h2 : EdgesAt W (.slice a m c) es) => G.same N N v (.slice a m c) es es W (by omega) h1 h2)
        rw [decide_eq_true ⟨rfl, rfl⟩] at HSa
        generalize totalV (N : Int) es = TV at HT1 HT2
        have HLR : Hid ((natI (List.range N)).length = N) := Lib.hid (by simp [natI])
        generalize natI (List.range N) = RL at HU HLR
        generalize es.map turnE = ER at HV1 HV2 HT1
        clear hm0 b0 HW3 HE HS HQ HV HLW
        have b0 := HS1.out.1
        have b1 := HS1.out.2.1
        go_upto_region 20 with (go_at_call 25; refine (HU.out _ HS1.out.2.2.1.out HQ1.out).mono ?_; rintro e w9 ⟨v9, x9, rfl, h1, h2, hB⟩; obtain ⟨s9, c9, rfl⟩ := edges_form h1; obtain ⟨t9, d9, rfl⟩ := ints_form h2; rw [HLR.out]; rw [HM.out] at h1; rw [HM.out]; have ha := (Below.refl w9.heap.size w9).alloc (Nat.le_refl _) (.cells #[.int .i64 (N : Int), .slice s9 m c9] 24); have HL3 : L3 w w.heap.size w9.heap.size N (.slice a m c) (.slice s9 m c9) es (w9.alloc (.cells #[.int .i64 (N : Int), .slice s9 m c9] 24)) := ⟨cell_on ha (cell_on hB b0), cell_on ha (cell_on hB b1), by simp, by simp, Lib.hid ((HS1.out.2.2.1.out.on hB).on ha), Lib.hid (h1.on ha), Lib.hid (on_trans (on_trans HS1.out.2.2.2.out hB) ha)⟩; clear ha h1 h2 hB b0 b1)
        obtain ⟨P9, hP9⟩ : ∃ P9, w9.heap.size = P9 := ⟨_, rfl⟩
        obtain ⟨W9, hW9⟩ : ∃ W9, w9.alloc (.cells #[.int .i64 (N : Int), .slice s9 m c9] 24) = W9 := ⟨_, rfl⟩
        rw [hW9, hP9] at HL3
        rw [hW9, hP9]
        clear hW9 hP9
        go_region_held3 (fun w' => w'.cell? ⟨w.heap.size, 0, none⟩ = some (.int .i64 (N : Int)) ∧ w'.cell? ⟨w.heap.size, 1, none⟩ = some (.slice a m c) ∧ w'.cell? ⟨P9, 0, none⟩ = some (.int .i64 (N : Int)) ∧ w'.cell? ⟨P9, 1, none⟩ = some (.slice s9 m c9) ∧ Hid (EdgesAt w' (.slice a m c) es) ∧ Hid (EdgesAt w' (.slice s9 m c9) es) ∧ Hid (Below w.heap.size w w'))
          (first
            | exact L3.on (Below.refl _ _).drew HL3
            | exact L3.on hB ‹_›)
          (first
            | (go_at_call_of 18 (Value.agg #[.int .i64 (N : Int), .slice a m c]); refine (HV1.out _ (show L3 w w.heap.size P9 N (.slice a m c) (.slice s9 m c9) es _ from ‹_›).2.2.2.2.1.out).mono ?_; rintro e wa ⟨r1, rfl, h1, hB⟩; have HR1 := Lib.hid h1; clear h1)
            | (go_at_call 18; refine (HV2.out _ _ HR1.out).mono ?_; rintro e wb ⟨r2, rfl, h1, hB⟩; have HR2 := Lib.hid h1; clear h1)
            | (go_at_call_of 13 (Value.agg #[.int .i64 (N : Int), r2]); refine (HSa.out _ _ HR2.out (show L3 w w.heap.size P9 N (.slice a m c) (.slice s9 m c9) es _ from ‹_›).2.2.2.2.1.out).mono ?_; rintro e wd ⟨rfl, hB⟩)
            | (go_at_call 13; refine (HSa.out _ _ (show L3 w w.heap.size P9 N (.slice a m c) (.slice s9 m c9) es _ from ‹_›).2.2.2.2.2.1.out (show L3 w w.heap.size P9 N (.slice a m c) (.slice s9 m c9) es _ from ‹_›).2.2.2.2.1.out).mono ?_; rintro e we ⟨rfl, hB⟩)
            | (go_at_call_of 20 (Value.agg #[.int .i64 (N : Int), .slice a m c]); refine (HT2.out _ (show L3 w w.heap.size P9 N (.slice a m c) (.slice s9 m c9) es _ from ‹_›).2.2.2.2.1.out).mono ?_; rintro e wf ⟨rfl, hB⟩)
            | (go_at_call 20; refine (HT1.out _ _ HR1.out).mono ?_; rintro e wg ⟨rfl, hB⟩)
            | (go_at_call 8; refine (HA.out _).mono ?_; rintro e wh ⟨rfl, hB⟩))
        have HZ := (show L3 w w.heap.size P9 N (.slice a m c) (.slice s9 m c9) es wh from ‹_›).2.2.2.2.2.2
        go_wp2
        go_ret
        exact ⟨rfl, HZ.out⟩
set_option maxHeartbeats 1000000 in
theorem backlaw_out (G : GSpec) (n : Int) (es : List Ed) (a : Option Addr) (m c : Nat) (h : lightB n m = false ∨ (lightB n m = true ∧ rightF n es ≠ 0)) (k : Int) (x : Nat) (w : World) (hE : EdgesAt w (.slice a m c) es) :
    Calls Try.prog 6 #[.agg #[.int .i64 n, .slice a m c], .int .i64 k, .int .u64 (x : Int)] w fun e w' => e = .returned (.bool true) ∧ Below w.heap.size w w' := by
  have HL := Lib.hid (fun W => light_any n a m c W)
  have HA := Lib.hid (fun W => galive_any G W)
  have HR := Lib.hid (fun W h => G.right n (.slice a m c) es W h)
  have hB0 := (Below.refl w.heap.size w).alloc (Nat.le_refl _) (.cells #[.int .i64 n, .slice a m c] 24)
  have HLS : Hid (LS w w.heap.size n (.slice a m c) es (w.alloc (.cells #[.int .i64 n, .slice a m c] 24))) := Lib.hid ⟨by simp, by simp, Lib.hid (hE.on hB0), Lib.hid hB0⟩
  clear hB0 hE
  rcases h with h | ⟨h, h'⟩
  · rw [h] at HL
    clear h HR
    go_enter Try.func6, Try.ntmps6
    go_wp2_with (first
      | (go_at_call 7; refine (HL.out _).mono ?_; rintro e w1 ⟨rfl, hB⟩; have HLS := Lib.hid (HLS.out.on hB); clear hB)
      | (go_at_call 8; refine (HA.out _).mono ?_; rintro e w2 ⟨rfl, hB⟩; have HLS := Lib.hid (HLS.out.on hB); clear hB))
    go_ret
    exact ⟨rfl, HLS.out.2.2.2.out⟩
  · rw [h] at HL
    obtain ⟨F, hF⟩ : ∃ F, rightF n es = F := ⟨_, rfl⟩
    rw [hF] at HR h'
    have hne : (F != 0) = true := by rw [bne_iff_ne]; exact h'
    clear h h' hF
    go_enter Try.func6, Try.ntmps6
    go_wp2_with (first
      | (go_at_call 7; refine (HL.out _).mono ?_; rintro e w1 ⟨rfl, hB⟩; have HLS := Lib.hid (HLS.out.on hB); have b0 := HLS.out.1; have b1 := HLS.out.2.1; clear hB HL)
      | (go_at_call 9; refine (HR.out _ HLS.out.2.2.1.out).mono ?_; rintro e w2 ⟨rfl, hB⟩; have HLS := Lib.hid (HLS.out.on hB); clear b0 b1; clear hB HR)
      | (go_at_call 8; refine (HA.out _).mono ?_; rintro e w3 ⟨rfl, hB⟩; have HLS := Lib.hid (HLS.out.on hB); clear hB))
    go_ret
    exact ⟨rfl, HLS.out.2.2.2.out⟩
theorem backlaw_any (G : GSpec) (n : Int) {v : Value} {es : List Ed} (k : Int) (x : Nat) (w : World) (h : EdgesAt w v es) :
    Calls Try.prog 6 #[.agg #[.int .i64 n, v], .int .i64 k, .int .u64 (x : Int)] w fun e w' => e = .returned (.bool true) ∧ Below w.heap.size w w' := by
  have h' := h
  obtain ⟨a, c, rfl, _⟩ := h
  cases hl : lightB n es.length
  · exact backlaw_out G n es a _ c (.inl hl) k x w h'
  · by_cases h0 : rightF n es = 0
    · have hN := (right_iff.1 h0).1
      obtain ⟨N, rfl⟩ : ∃ N : Nat, n = N := ⟨n.toNat, by omega⟩
      exact backlaw_in G N es a _ c rfl hl h0 k x w h'
    · exact backlaw_out G n es a _ c (.inr ⟨hl, h0⟩) k x w h'
end Go.Proofs.Ytcgijabnknemiaa
