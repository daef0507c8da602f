import Derived.Test.YtpbjknhoiehonaaAdjC
set_option linter.unusedVariables false
set_option linter.unusedSimpArgs false
namespace Go.Proofs.Ytpbjknhoiehonaa
open Go.RowKit
attribute [local go_sem ↓] Go.wp_at_zero Go.wp_at_succ
variable {Held : World → Nat → Addr → Int → List Ed → Prop}
set_option maxRecDepth 8000 in
set_option maxHeartbeats 400000 in
theorem aonce_heavy (S : AdjSpec Held) (n : Int) (a : Option Addr) (m c : Nat) (hl : lightB n m = false) (w : World) :
    Calls Try.prog 3 #[.agg #[.int .i64 n, .slice a m c]] w fun e w' => e = .returned (.bool true) ∧ Below w.heap.size w w' := by
  have HL := Lib.hid (fun W => light_any n a m c W)
  rw [hl] at HL
  have HAl := Lib.hid (fun W => aalive_any S W)
  have HB0 := Lib.hid ((Below.refl w.heap.size w).alloc (Nat.le_refl _) (.cells #[.int .i64 n, .slice a m c] 24))
  clear hl
  go_enter Try.func3, Try.ntmps3
  go_wp2_with (first
    | (go_at_call 5; refine (HL.out _).mono ?_; rintro e w1 ⟨rfl, hB⟩; have HB1 := Lib.hid (on_trans HB0.out hB); clear hB HL)
    | (go_at_call 7; refine (HAl.out _).mono ?_; rintro e w2 ⟨rfl, hB⟩; have HB2 := Lib.hid (on_trans HB1.out hB); clear hB HAl))
  go_ret
  exact ⟨rfl, HB2.out⟩
set_option maxRecDepth 8000 in
set_option maxHeartbeats 400000 in
theorem aonce_wrong (S : AdjSpec Held) (n : Int) (es : List Ed) (a : Option Addr) (m c : Nat) (hm : es.length = m) (hl : lightB n m = true) (hr : rightF n es ≠ 0) (w : World) (hE : EdgesAt w (.slice a m c) es) :
    Calls Try.prog 3 #[.agg #[.int .i64 n, .slice a m c]] w fun e w' => e = .returned (.bool true) ∧ Below w.heap.size w w' := by
  have HL := Lib.hid (fun W => light_any n a m c W)
  rw [hl] at HL
  have HAl := Lib.hid (fun W => aalive_any S W)
  have hB0 := (Below.refl w.heap.size w).alloc (Nat.le_refl _) (.cells #[.int .i64 n, .slice a m c] 24)
  have HE0 := Lib.hid (hE.on hB0)
  have HB0 := Lib.hid hB0
  have HR := Lib.hid (fun W (h : EdgesAt W (.slice a m c) es) => gright_any n W h)
  have hne : (rightF n es != 0) = true := by rw [bne_iff_ne]; exact hr
  generalize rightF n es = R at HR hne
  clear hl hr hB0 hE
  go_enter Try.func3, Try.ntmps3
  go_wp2_with (first
    | (go_at_call 5; refine (HL.out _).mono ?_; rintro e w1 ⟨rfl, hB⟩; have HB1 := Lib.hid (on_trans HB0.out hB); have HE1 := Lib.hid (HE0.out.on hB); have b0 := cell_on hB (p := ⟨w.heap.size, 0, none⟩) (v := .int .i64 n) (by simp); have b1 := cell_on hB (p := ⟨w.heap.size, 1, none⟩) (v := .slice a m c) (by simp); clear hB HL)
    | (go_at_call 6; refine (HR.out _ HE1.out).mono ?_; rintro e w2 ⟨rfl, hB⟩; have HB2 := Lib.hid (on_trans HB1.out hB); clear hB HR)
    | (go_at_call 7; refine (HAl.out _).mono ?_; rintro e w3 ⟨rfl, hB⟩; have HB3 := Lib.hid (on_trans HB2.out hB); clear hB HAl))
  go_ret
  exact ⟨rfl, HB3.out⟩
theorem owns_arr {w : World} {base : Nat} {ty : TypeId} {v : Value} {l : List Nat} (h : w.ownsRow base ty 1 v l.length (natV l)) (h0 : 0 < l.length) : ∃ g cap, v = .slice (some ⟨g, 0, none⟩) l.length cap ∧ base ≤ g ∧ g < w.heap.size ∧ IArr w g (natI l) := by
  have h' := h
  rcases h.2 with ⟨_, h1⟩ | ⟨g, cap, cur, rfl, hb, hc, _⟩
  · omega
  · refine ⟨g, cap, rfl, hb, (Array.getElem?_eq_some_iff.1 hc).1, fun j x hx => ⟨?_, h'.frozenAt j⟩⟩
    have hl : (natI l).length = l.length := by simp [natI]
    have hj : j < l.length := by rw [← hl]; exact (List.getElem?_eq_some_iff.1 hx).1
    rw [h'.cellAt j (by omega)]
    unfold natI at hx
    unfold natV
    rw [List.getElem?_map] at hx ⊢
    cases hq : l[j]? with
    | none => rw [hq] at hx; cases hx
    | some y => rw [hq] at hx; simp at hx; subst hx; rfl
/-- What a graph in a variable reads as, and what is known of the world. -/
def LG (w0 : World) (B : Nat) (n : Int) (v : Value) (es : List Ed) (w : World) : Prop := w.cell? ⟨B, 0, none⟩ = some (.int .i64 n) ∧ w.cell? ⟨B, 1, none⟩ = some v ∧ Hid (EdgesAt w v es) ∧ Hid (Below w0.heap.size w0 w)
theorem LG.on {w0 W w1 : World} {B : Nat} {n : Int} {v : Value} {es : List Ed} (hb : Below W.heap.size W w1) (h : LG w0 B n v es W) : LG w0 B n v es w1 := ⟨cell_on hb h.1, cell_on hb h.2.1, Lib.hid (h.2.2.1.out.on hb), Lib.hid (on_trans h.2.2.2.out hb)⟩
theorem rrow_any (n v : Int) {vv : Value} {es : List Ed} (w : World) (hl : es.length ≤ 16384) (h : EdgesAt w vv es) :
    Calls Try.prog 12 #[.agg #[.int .i64 n, vv], .int .i64 v, .bool false] w fun e w' => ∃ u, e = .returned u ∧ IntsAt w' u (natI (rowL false v es)) ∧ Below w.heap.size w w' := by
  obtain ⟨a, c, rfl, g⟩ := edgesAt_flat h
  exact (rrow_false n v es a _ c rfl hl w (Lib.hid g)).mono fun e w' ⟨u, e1, e2, e3⟩ => ⟨u, e1, ints_own e2, e3⟩
/-- What the last region of a round loads and leaves. -/
def AO (Held : World → Nat → Addr → Int → List Ed → Prop) (w3 : World) (B : Nat) (p : Addr) (n : Int) (v : Value) (es : List Ed) (G Q R : Nat) (xs ys : List Int) (D : Nat) (w : World) : Prop := w.cell? ⟨G, 0, none⟩ = some (.int .i64 n) ∧ w.cell? ⟨G, 1, none⟩ = some v ∧ Hid (EdgesAt w v es) ∧ Hid (HA Held w3 B p n es w) ∧ Hid (IArr w Q xs) ∧ Hid (IArr w R ys) ∧ Hid (D ≤ w.heap.size)
theorem AO.on (S : AdjSpec Held) {w3 W w1 : World} {B : Nat} {p : Addr} {n : Int} {v : Value} {es : List Ed} {G Q R : Nat} {xs ys : List Int} {D : Nat} (hb : Below W.heap.size W w1) (h : AO Held w3 B p n v es G Q R xs ys D W) : AO Held w3 B p n v es G Q R xs ys D w1 :=
  ⟨cell_on hb h.1, cell_on hb h.2.1, Lib.hid (h.2.2.1.out.on hb), Lib.hid (h.2.2.2.1.out.on S hb), Lib.hid (h.2.2.2.2.1.out.on hb), Lib.hid (h.2.2.2.2.2.1.out.on hb), Lib.hid (Nat.le_trans h.2.2.2.2.2.2.out hb.size)⟩
set_option maxRecDepth 8000 in
set_option maxHeartbeats 4000000 in
theorem aonce_right (S : AdjSpec Held) (N : Nat) (es : List Ed) (a : Option Addr) (m c : Nat) (hm : es.length = m) (hl : lightB N m = true) (hr : rightF N es = 0) (w : World) (hE : EdgesAt w (.slice a m c) es) :
    Calls Try.prog 3 #[.agg #[.int .i64 (N : Int), .slice a m c]] w fun e w' => e = .returned (.bool true) ∧ Below w.heap.size w w' := by
  have hm3 : m ≤ 300 := by unfold lightB at hl; simp at hl; exact hl.2
  obtain ⟨r1, r2, r3, r4⟩ := right_ends hr
  have HL := Lib.hid (fun W => light_any N a m c W)
  rw [hl] at HL
  have HAl := Lib.hid (fun W => aalive_any S W)
  have hB0 := (Below.refl w.heap.size w).alloc (Nat.le_refl _) (.cells #[.int .i64 N, .slice a m c] 24)
  have HLS : Hid (LG w w.heap.size N (.slice a m c) es (w.alloc (.cells #[.int .i64 N, .slice a m c] 24))) := Lib.hid ⟨by simp, by simp, Lib.hid (hE.on hB0), Lib.hid hB0⟩
  have HR := Lib.hid (fun W (h : EdgesAt W (.slice a m c) es) => gright_any N W h)
  rw [hr] at HR
  have HN := Lib.hid (fun W h => S.new N (.slice a m c) es W h hr)
  have hmk := mkInts m (by omega)
  clear hl hr hB0 hE
  go_enter Try.func3, Try.ntmps3
  go_wp2_with (first
    | (go_at_call 5; refine (HL.out _).mono ?_; rintro e w1 ⟨rfl, hB⟩; have HLS := Lib.hid (HLS.out.on hB); have b0 := HLS.out.1; have b1 := HLS.out.2.1; clear hB HL)
    | (go_at_call 6; refine (HR.out _ HLS.out.2.2.1.out).mono ?_; rintro e w2 ⟨rfl, hB⟩; have HLS := Lib.hid (HLS.out.on hB); clear b0 b1; have b0 := HLS.out.1; have b1 := HLS.out.2.1; clear hB HR)
    | (go_at_call 8; refine (HN.out _ HLS.out.2.2.1.out).mono ?_; rintro e w3 ⟨p, rfl, hH, hB⟩; have HLS := Lib.hid (HLS.out.on hB); clear b0 b1; have b0 := HLS.out.1; have b1 := HLS.out.2.1; obtain ⟨B, hB1⟩ : ∃ B, w3.heap.size = B := ⟨_, rfl⟩; have HH : Hid (Held w3 B p N es) := Lib.hid (hB1 ▸ hH); clear hH hB HN))
  rw [hm] at r3
  have hw1 : w.heap.size < B := by have := World.block_lt_of_cell? w3 _ b0; rw [hB1] at this; exact this
  have hI1 : Hid (IArr ((w3.alloc (.cells (zeros m) 3)).alloc (.cells (zeros m) 3)).drew B (List.replicate m 0)) := Lib.hid (IArr.zeros fun j hj => by subst hB1; simp)
  have hI2 : Hid (IArr ((w3.alloc (.cells (zeros m) 3)).alloc (.cells (zeros m) 3)).drew (B + 1) (List.replicate m 0)) := Lib.hid (IArr.zeros fun j hj => by subst hB1; simp)
  have hBD : Hid (Below B w3 ((w3.alloc (.cells (zeros m) 3)).alloc (.cells (zeros m) 3)).drew) := Lib.hid (by subst hB1; exact (((Below.refl _ _).alloc (Nat.le_refl _) _).alloc (by simp) _).drew)
  have hSD : Hid (B + 2 ≤ ((w3.alloc (.cells (zeros m) 3)).alloc (.cells (zeros m) 3)).drew.heap.size) := Lib.hid (by subst hB1; simp)
  go_region
  · obtain ⟨Q, hQ⟩ : ∃ Q, Q = B := ⟨_, rfl⟩
    obtain ⟨R, hR⟩ : ∃ R, R = B + 1 := ⟨_, rfl⟩
    go_wp2
    rw [← hQ] at hI1
    rw [← hR] at hI2
    rw [← hR]
    obtain ⟨W2, hW2⟩ : ∃ W2, ((w3.alloc (.cells (zeros m) 3)).alloc (.cells (zeros m) 3)).drew = W2 := ⟨_, rfl⟩
    rw [hW2] at hI1 hI2 hBD hSD ⊢
    rw [show (⟨B, 0, none⟩ : Addr) = ⟨Q, 0, none⟩ by rw [hQ]]
    have hQ0 : B ≤ Q := by omega
    have hR0 : B ≤ R := by omega
    have hQ1 : Q < B + 2 := by omega
    have hR1 : R < B + 2 := by omega
    have hQR : Q ≠ R := by omega
    clear hQ hR hW2 hmk
    have hJ1 : Hid (IArr W2 Q (cntA false es ((0 : Nat) : Int) [])) := Lib.hid (by rw [show ((0 : Nat) : Int) = 0 from rfl, ← cntA_zero (back := false) (es := es) (fun e he => (r4 e he).1), hm]; exact hI1.out)
    have hJ2 : Hid (IArr W2 R (cntA true es ((0 : Nat) : Int) [])) := Lib.hid (by rw [show ((0 : Nat) : Int) = 0 from rfl, ← cntA_zero (back := true) (es := es) (fun e he => (r4 e he).2.2.1), hm]; exact hI2.out)
    clear hI1 hI2
    go_loopw [7] (fun i wr => ∃ k : Nat, k ≤ N ∧ i = .int .i64 k ∧ Hid (IArr wr Q (cntA false es k [])) ∧ Hid (IArr wr R (cntA true es k [])) ∧ Hid (Below B w3 wr) ∧ Hid (B + 2 ≤ wr.heap.size)) (fun i _ => N - (RowKit.intOf i).toNat)
    case atStart => exact ⟨0, by omega, rfl, hJ1, hJ2, hBD, hSD⟩
    case round =>
      obtain ⟨k, hk, rfl, HQ, HR, HB, HS⟩ := hrel
      clear hJ1 hJ2 hBD hSD
      have b0r := cell_lt HB.out hw1 b0
      have b1r := cell_lt HB.out hw1 b1
      by_cases hkn : k < N
      · have hk1 : (k : Int) < (N : Int) := by omega
        have hk0 : (0 : Int) ≤ (k : Int) := Int.natCast_nonneg _
        have HHr : Hid (HA Held w3 B p N es wr) := Lib.hid ⟨Lib.hid (S.on HB.out HH.out), Lib.hid (by have := HS.out; omega), Lib.hid (by rw [hB1]; exact HB.out)⟩
        have HO := Lib.hid (fun W (h : HA Held w3 B p N es W) => S.out B p N es k W h.2.1.out h.1.out hk0 hk1)
        have HI := Lib.hid (fun W (h : HA Held w3 B p N es W) => S.inn B p N es k W h.2.1.out h.1.out hk0 hk1)
        go_wp2_with (first
          | (go_at_call 9; refine (HO.out _ HHr.out).mono ?_; rintro e w4 ⟨u, rfl, hu, hB⟩; have HU := Lib.hid hu; have HH4 := Lib.hid (HHr.out.on S hB); have HQ4 := Lib.hid (HQ.out.on hB); have HR4 := Lib.hid (HR.out.on hB); have HB4 := Lib.hid hB; obtain ⟨au, cu, rfl⟩ := slice_form hu; clear hu hB)
          | (go_at_call 10; refine (HI.out _ HH4.out).mono ?_; rintro e w5 ⟨v, rfl, hv, hB⟩; have HV := Lib.hid hv; have HU5 := Lib.hid (owns_below HU.out hB (Nat.le_refl _)); have HH5 := Lib.hid (HH4.out.on S hB); have HQ5 := Lib.hid (HQ4.out.on hB); have HR5 := Lib.hid (HR4.out.on hB); have HB5 := Lib.hid hB; obtain ⟨av, cv, rfl⟩ := slice_form hv; clear hv hB))
        have HD0 : Hid (B + 2 ≤ w4.heap.size) := Lib.hid (by have h1 := HS.out; have h2 := HB4.out.size; omega)
        have HD1 := Lib.hid HB5.out.size
        obtain ⟨D, hD⟩ : ∃ D, w4.heap.size = D := ⟨_, rfl⟩
        have HB6 : Hid (Below B w3 w5) := Lib.hid (by rw [← hB1]; exact HH5.out.2.2.out)
        have HG0 : Hid (0 < (rowL false k es).length → ∃ g, au = some ⟨g, 0, none⟩ ∧ B + 2 ≤ g ∧ g < D ∧ IArr w5 g (spent (rowL false k es) 0)) := Lib.hid fun h => by
          obtain ⟨g, cap, h1, h2, h3, h4⟩ := owns_arr HU.out h
          have h5 := HS.out
          rw [spent_zero]
          refine ⟨g, by injection h1, by omega, by omega, h4.on HB5.out⟩
        have HM0 : Hid (0 < (rowL true k es).length → ∃ g, av = some ⟨g, 0, none⟩ ∧ D ≤ g ∧ IArr w5 g (natI (rowL true k es))) := Lib.hid fun h => by
          obtain ⟨g, cap, h1, h2, h3, h4⟩ := owns_arr HV.out h
          exact ⟨g, by injection h1, by omega, h4⟩
        have HEs : Hid (0 < m → ∃ b off, a = some ⟨b, off, none⟩ ∧ b < B ∧ ∀ (j : Nat) e, es[j]? = some e → w3.cell? ⟨b, off + j * 3, none⟩ = some (.int .i64 e.f) ∧ w3.cell? ⟨b, off + j * 3 + 1, none⟩ = some (.int .i64 e.t)) := Lib.hid fun h => by
          obtain ⟨a', c', h1, h2⟩ := edgesAt_flat HLS.out.2.2.1.out
          obtain ⟨b, off, h3, h4⟩ := h2 (by omega)
          obtain ⟨e, he⟩ : ∃ e, es[0]? = some e := ⟨_, List.getElem?_eq_getElem (by omega)⟩
          refine ⟨b, off, by injection h1 with h5; rw [h5, h3], ?_, fun j e he => ⟨(h4 j e he).1, (h4 j e he).2.1⟩⟩
          have := World.block_lt_of_cell? w3 _ (h4 0 e he).1
          rw [hB1] at this
          exact this
        have HZ0 : Hid (cntA false es k [] = cntA false es k ((rowL false k es).take 0)) := Lib.hid (by rw [List.take_zero])
        rw [HZ0.out] at HQ5
        rw [hD] at HD0 HD1
        have hl1 : (rowL false k es).length ≤ 300 := by have := rowK_le false k es es.length; unfold rowL; omega
        have hl2 : (rowL true k es).length ≤ 300 := by have := rowK_le true k es es.length; unfold rowL; omega
        clear HO HI HU HV HU5 HB4 HB5 HH4 HQ4 HR4 HZ0 HHr HQ HR HH5 b0r b1r HB HS
        go_wp2
        go_loopw [10] (fun i ws => ∃ i' : Nat, i' ≤ (rowL false k es).length ∧ i = .int .i64 i' ∧ Hid (IArr ws Q (cntA false es k ((rowL false k es).take i'))) ∧ Hid (IArr ws R (cntA true es k [])) ∧ Hid (0 < (rowL false k es).length → ∃ g, au = some ⟨g, 0, none⟩ ∧ B + 2 ≤ g ∧ g < D ∧ IArr ws g (spent (rowL false k es) i')) ∧ Hid (0 < (rowL true k es).length → ∃ g, av = some ⟨g, 0, none⟩ ∧ D ≤ g ∧ IArr ws g (natI (rowL true k es))) ∧ Hid (Below B w3 ws) ∧ Hid (D ≤ ws.heap.size)) (fun i _ => (rowL false k es).length - (RowKit.intOf i).toNat)
        case atStart => exact ⟨0, by omega, rfl, HQ5, HR5, HG0, HM0, HB6, HD1⟩
        case round =>
          obtain ⟨i, hi, rfl, HQ, HR, HG, HM, HB, HS⟩ := hrel
          clear HQ5 HR5 HG0 HM0 HB6 HD1
          have b1s := cell_lt HB.out hw1 b1
          by_cases hil : i < (rowL false k es).length
          · obtain ⟨j, hj⟩ : ∃ j, (rowL false k es)[i]? = some j := ⟨_, List.getElem?_eq_getElem hil⟩
            obtain ⟨⟨f, t, x⟩, he0, hb⟩ := rowL_at (List.mem_of_getElem? hj)
            obtain rfl : f = (k : Int) := (outB_end false _ _).1 hb
            have hjm : j < m := by have := (List.getElem?_eq_some_iff.1 he0).1; omega
            obtain ⟨b, off, rfl, hbB, hc⟩ := HEs.out (by omega)
            have e1 := cell_lt HB.out (show b < B by omega) (hc j _ he0).1
            obtain ⟨g, rfl, hg1, hg2, hg3⟩ := HG.out (by omega)
            simp only at e1
            have hdr := (Below.refl wr.heap.size wr).drew
            obtain ⟨wd, hwd⟩ : ∃ wd, wr.drew = wd := ⟨_, rfl⟩
            rw [hwd] at hdr
            have b1d := cell_on hdr b1s
            have e1 := cell_on hdr e1
            have HQ := Lib.hid (HQ.out.on hdr)
            have HR := Lib.hid (HR.out.on hdr)
            have hg3 := hg3.on hdr
            obtain ⟨l1, l2⟩ := hg3 i _ (spent_now hj)
            obtain ⟨q1, q2⟩ := HQ.out j _ (cntA_old hj he0)
            have HQ2 : Hid (IArr ((wd.setCell ⟨Q, j, none⟩ (.int .i64 1)).setCell ⟨g, i, none⟩ (.int .i64 (-1))) Q (cntA false es k ((rowL false k es).take (i + 1)))) := Lib.hid (by rw [← cntA_step hj he0]; exact (HQ.out.set _).other _ (by simp; omega))
            have HR2 : Hid (IArr ((wd.setCell ⟨Q, j, none⟩ (.int .i64 1)).setCell ⟨g, i, none⟩ (.int .i64 (-1))) R (cntA true es k [])) := Lib.hid ((HR.out.other _ hQR).other _ (by simp; omega))
            have HG2 : Hid (0 < (rowL false k es).length → ∃ g', some ⟨g, 0, none⟩ = some (⟨g', 0, none⟩ : Addr) ∧ B + 2 ≤ g' ∧ g' < D ∧ IArr ((wd.setCell ⟨Q, j, none⟩ (.int .i64 1)).setCell ⟨g, i, none⟩ (.int .i64 (-1))) g' (spent (rowL false k es) (i + 1))) := Lib.hid fun _ => ⟨g, rfl, hg1, hg2, by rw [← spent_step hil]; exact (hg3.other _ (by simp; omega)).set _⟩
            have HM2 : Hid (0 < (rowL true k es).length → ∃ g', av = some ⟨g', 0, none⟩ ∧ D ≤ g' ∧ IArr ((wd.setCell ⟨Q, j, none⟩ (.int .i64 1)).setCell ⟨g, i, none⟩ (.int .i64 (-1))) g' (natI (rowL true k es))) := Lib.hid fun h => by
              obtain ⟨g', h1, h2, h3⟩ := HM.out h
              have := HD0.out
              exact ⟨g', h1, h2, ((h3.on hdr).other _ (by simp; omega)).other _ (by simp; omega)⟩
            have HB2 : Hid (Below B w3 ((wd.setCell ⟨Q, j, none⟩ (.int .i64 1)).setCell ⟨g, i, none⟩ (.int .i64 (-1)))) := Lib.hid (((HB.out.trans (hdr.mono (by have := HS.out; have := HD0.out; omega))).setCell hQ0 _).setCell (by simp; omega) _)
            have HS2 : Hid (D ≤ ((wd.setCell ⟨Q, j, none⟩ (.int .i64 1)).setCell ⟨g, i, none⟩ (.int .i64 (-1))).heap.size) := Lib.hid (by have h1 := HS.out; have h2 := hdr.size; simp; omega)
            have l1' : (wd.setCell ⟨Q, j, none⟩ (.int .i64 1)).cell? ⟨g, i, none⟩ = some (.int .i64 j) := (World.cell?_setCell_other _ _ _ _ (by simp <;> omega)).trans l1
            have l2' : (wd.setCell ⟨Q, j, none⟩ (.int .i64 1)).frozen? ⟨g, i, none⟩ = false := by rw [World.frozen?_setCell]; exact l2
            have hi0 : (0 : Int) ≤ (i : Int) := Int.natCast_nonneg _
            have hi1 : (i : Int) < ((rowL false k es).length : Int) := by omega
            have hd1 : decide ((j : Int) < 0) = false := decide_eq_false (by omega)
            have hd2 : decide ((m : Int) ≤ (j : Int)) = false := decide_eq_false (by omega)
            have hd3 : decide (m ≤ j) = false := decide_eq_false (by omega)
            have hd4 : ((k : Int) != (k : Int)) = false := by simp
            have hj0 : (0 : Int) ≤ (j : Int) := Int.natCast_nonneg _
            have hj1 : (j : Int) < (m : Int) := by omega
            generalize (rowL false k es).length = LN at hi1 hl1 HG2 ⊢
            clear hj he0 hb hc hg3 HQ HR HG HM HB HS HEs
            go_wp2
            go_region_held3 (fun w' => w'.cell? ⟨w.heap.size, 1, none⟩ = some (.slice (some ⟨b, off, none⟩) m c) ∧ w'.cell? ⟨g, i, none⟩ = some (.int .i64 j) ∧ w'.cell? ⟨b, off + j * 3, none⟩ = some (.int .i64 k)) (exact hwd ▸ ⟨b1d, l1, e1⟩) (fail)
            rw [hwd]
            clear b1s hdr
            go_wp2
            go_roundw
            case rel => exact ⟨i + 1, by omega, by go_num, HQ2, HR2, HG2, HM2, HB2, HS2⟩
            case measure => simp [RowKit.intOf] <;> omega
          · obtain rfl : i = (rowL false k es).length := by omega
            rw [List.take_length, cntA_next] at HQ
            clear HG b1s
            obtain ⟨wz, rfl⟩ : ∃ wz : World, wz = wr := ⟨_, rfl⟩
            have HZ0 : Hid (cntA true es k [] = cntA true es k ((rowL true k es).take 0)) := Lib.hid (by rw [List.take_zero])
            rw [HZ0.out] at HR
            go_wp2
            go_loopw [11] (fun i ws => ∃ i' : Nat, i' ≤ (rowL true k es).length ∧ i = .int .i64 i' ∧ Hid (IArr ws Q (cntA false es (k + 1) [])) ∧ Hid (IArr ws R (cntA true es k ((rowL true k es).take i'))) ∧ Hid (0 < (rowL true k es).length → ∃ g, av = some ⟨g, 0, none⟩ ∧ D ≤ g ∧ IArr ws g (natI (rowL true k es))) ∧ Hid (Below B w3 ws) ∧ Hid (D ≤ ws.heap.size)) (fun i _ => (rowL true k es).length - (RowKit.intOf i).toNat)
            case atStart => exact ⟨0, by omega, rfl, HQ, HR, HM, HB, HS⟩
            case round =>
              clear HQ HR HM HB HS HZ0
              obtain ⟨i, hi, rfl, HQ, HR, HM, HB, HS⟩ := hrel
              have b1s := cell_lt HB.out hw1 b1
              by_cases hil : i < (rowL true k es).length
              · obtain ⟨j, hj⟩ : ∃ j, (rowL true k es)[i]? = some j := ⟨_, List.getElem?_eq_getElem hil⟩
                obtain ⟨⟨f, t, x⟩, he0, hb⟩ := rowL_at (List.mem_of_getElem? hj)
                obtain rfl : t = (k : Int) := (outB_end true _ _).1 hb
                have hjm : j < m := by have := (List.getElem?_eq_some_iff.1 he0).1; omega
                obtain ⟨b, off, rfl, hbB, hc⟩ := HEs.out (by omega)
                have e1 := cell_lt HB.out (show b < B by omega) (hc j _ he0).2
                obtain ⟨g, rfl, hg2, hg3⟩ := HM.out (by omega)
                simp only at e1
                have hdr := (Below.refl wr.heap.size wr).drew
                obtain ⟨wd, hwd⟩ : ∃ wd, wr.drew = wd := ⟨_, rfl⟩
                rw [hwd] at hdr
                have b1d := cell_on hdr b1s
                have e1 := cell_on hdr e1
                have HQ := Lib.hid (HQ.out.on hdr)
                have HR := Lib.hid (HR.out.on hdr)
                have hg3 := hg3.on hdr
                obtain ⟨l1, l2⟩ := hg3 i j (by unfold natI; rw [List.getElem?_map, hj]; rfl)
                obtain ⟨q1, q2⟩ := HR.out j _ (cntA_old hj he0)
                have HD0' := HD0.out
                have HQ2 : Hid (IArr (wd.setCell ⟨R, j, none⟩ (.int .i64 1)) Q (cntA false es (k + 1) [])) := Lib.hid (HQ.out.other _ (fun h => hQR h.symm))
                have HR2 : Hid (IArr (wd.setCell ⟨R, j, none⟩ (.int .i64 1)) R (cntA true es k ((rowL true k es).take (i + 1)))) := Lib.hid (by rw [← cntA_step hj he0]; exact HR.out.set _)
                have HM2 : Hid (0 < (rowL true k es).length → ∃ g', some ⟨g, 0, none⟩ = some (⟨g', 0, none⟩ : Addr) ∧ D ≤ g' ∧ IArr (wd.setCell ⟨R, j, none⟩ (.int .i64 1)) g' (natI (rowL true k es))) := Lib.hid fun _ => ⟨g, rfl, hg2, hg3.other _ (by simp; omega)⟩
                have HB2 : Hid (Below B w3 (wd.setCell ⟨R, j, none⟩ (.int .i64 1))) := Lib.hid ((HB.out.trans (hdr.mono (by have := HS.out; omega))).setCell hR0 _)
                have HS2 : Hid (D ≤ (wd.setCell ⟨R, j, none⟩ (.int .i64 1)).heap.size) := Lib.hid (by have h1 := HS.out; have h2 := hdr.size; simp; omega)
                have hi0 : (0 : Int) ≤ (i : Int) := Int.natCast_nonneg _
                have hi1 : (i : Int) < ((rowL true k es).length : Int) := by omega
                have hd1 : decide ((j : Int) < 0) = false := decide_eq_false (by omega)
                have hd3 : decide (m ≤ j) = false := decide_eq_false (by omega)
                have hd4 : ((k : Int) != (k : Int)) = false := by simp
                have hj0 : (0 : Int) ≤ (j : Int) := Int.natCast_nonneg _
                have hj1 : (j : Int) < (m : Int) := by omega
                generalize (rowL true k es).length = MN at hi1 hl2 HM2 ⊢
                clear hj he0 hb hc hg3 HQ HR HM HB HS HEs
                go_wp2
                go_region_held3 (fun w' => w'.cell? ⟨w.heap.size, 1, none⟩ = some (.slice (some ⟨b, off, none⟩) m c) ∧ w'.cell? ⟨g, i, none⟩ = some (.int .i64 j) ∧ w'.cell? ⟨b, off + j * 3 + 1, none⟩ = some (.int .i64 k)) (exact hwd ▸ ⟨b1d, l1, e1⟩) (fail)
                rw [hwd]
                clear b1s hdr
                go_wp2
                go_roundw
                case rel => exact ⟨i + 1, by omega, by go_num, HQ2, HR2, HM2, HB2, HS2⟩
                case measure => simp [RowKit.intOf] <;> omega
              · obtain rfl : i = (rowL true k es).length := by omega
                rw [List.take_length, cntA_next] at HR
                have hks : ((k + 1 : Nat) : Int) = (k : Int) + 1 := by omega
                rw [← hks] at HQ HR
                have hb3 : Below w3.heap.size w3 wr := by rw [hB1]; exact HB.out
                have HT : AO Held w3 B p N (.slice a m c) es w.heap.size Q R (cntA false es ((k + 1 : Nat) : Int) []) (cntA true es ((k + 1 : Nat) : Int) []) D wr := ⟨cell_on hb3 b0, b1s, Lib.hid (HLS.out.2.2.1.out.on hb3), Lib.hid ⟨Lib.hid (S.on HB.out HH.out), Lib.hid (by have h1 := HS.out; have h2 := HD0.out; omega), Lib.hid hb3⟩, HQ, HR, HS⟩
                have HO := Lib.hid (fun W (h : HA Held w3 B p N es W) => S.out B p N es k W h.2.1.out h.1.out hk0 hk1)
                have HRw := Lib.hid (fun W (h : EdgesAt W (.slice a m c) es) => rrow_any N k W (by omega) h)
                have HI := Lib.hid (fun W v1 v2 (h1 : IntsAt W v1 (natI (rowL false k es))) (h2 : IntsAt W v2 (natI (rowL false k es))) => isame_any (by simp [natI]; omega) W h1 h2)
                rw [decide_eq_true rfl] at HI
                generalize hX : cntA false es ((k + 1 : Nat) : Int) [] = X at HT HQ
                generalize hY : cntA true es ((k + 1 : Nat) : Int) [] = Y at HT HR
                clear HM b1s HQ HR HB HS hb3
                go_wp2
                go_region_held3 (fun w' => w'.cell? ⟨w.heap.size, 0, none⟩ = some (.int .i64 (N : Int)) ∧ w'.cell? ⟨w.heap.size, 1, none⟩ = some (.slice a m c) ∧ Hid (EdgesAt w' (.slice a m c) es) ∧ Hid (HA Held w3 B p N es w') ∧ Hid (IArr w' Q X) ∧ Hid (IArr w' R Y) ∧ Hid (D ≤ w'.heap.size))
                  (first
                    | exact AO.on S (Below.refl _ _).drew HT
                    | exact AO.on S hB ‹_›)
                  (first
                    | (go_at_call 9; refine (HO.out _ (show AO Held w3 B p N (.slice a m c) es w.heap.size Q R X Y D _ from ‹_›).2.2.2.1.out).mono ?_; rintro e w6 ⟨u, rfl, hu, hB⟩; have HU := Lib.hid (ints_own hu); clear hu)
                    | (go_at_call 12; refine (HRw.out _ (show AO Held w3 B p N (.slice a m c) es w.heap.size Q R X Y D _ from ‹_›).2.2.1.out).mono ?_; rintro e w7 ⟨u7, rfl, hu, hB⟩; have HU := Lib.hid (HU.out.on hB); have HU7 := Lib.hid hu; clear hu)
                    | (go_at_call 11; refine (HI.out _ _ _ HU.out HU7.out).mono ?_; rintro e w8 ⟨rfl, hB⟩))
                have HT8 := (show AO Held w3 B p N (.slice a m c) es w.heap.size Q R X Y D w8 from ‹_›)
                have Z1 := HT8.2.2.2.2.1
                have Z2 := HT8.2.2.2.2.2.1
                have Z3 : Hid (Below B w3 w8) := Lib.hid (by rw [← hB1]; exact HT8.2.2.2.1.out.2.2.out)
                have Z4 : Hid (B + 2 ≤ w8.heap.size) := Lib.hid (by have h1 := HT8.2.2.2.2.2.2.out; have h2 := HD0.out; omega)
                rw [← hX] at Z1
                rw [← hY] at Z2
                clear HT8 HU HU7 hB hX hY
                go_wp2
                go_roundw
                case rel => exact ⟨k + 1, by omega, by go_num, Z1, Z2, Z3, Z4⟩
                case measure => simp [RowKit.intOf] <;> omega
      · obtain rfl : k = N := by omega
        have F1 : Hid (∀ j, j < m → (cntA false es k [])[j]? = some 1) := Lib.hid fun j hj => cntA_full (fun e he => (r4 e he).2.1) (by omega)
        have F2 : Hid (∀ j, j < m → (cntA true es k [])[j]? = some 1) := Lib.hid fun j hj => cntA_full (fun e he => (r4 e he).2.2.2.1) (by omega)
        generalize cntA false es k [] = X at HQ F1
        generalize cntA true es k [] = Y at HR F2
        clear HS b1r
        go_wp2
        go_loopw [12] (fun i ws => ∃ i' : Nat, i' ≤ m ∧ i = .int .i64 i' ∧ Hid (IArr ws Q X) ∧ Hid (IArr ws R Y) ∧ Hid (Below B w3 ws)) (fun i _ => m - (RowKit.intOf i).toNat)
        case atStart => exact ⟨0, by omega, rfl, HQ, HR, HB⟩
        case round =>
          clear HQ HR HB
          obtain ⟨i, hi, rfl, HQ, HR, HB⟩ := hrel
          by_cases him : i < m
          · have hi0 : (0 : Int) ≤ (i : Int) := Int.natCast_nonneg _
            have hi1 : (i : Int) < (m : Int) := by omega
            have q1 := (HQ.out i _ (F1.out i him)).1
            have q2 := (HR.out i _ (F2.out i him)).1
            clear F1 F2
            go_wp2
            go_roundw
            case rel => exact ⟨i + 1, by omega, by go_num, HQ, HR, HB⟩
            case measure => simp [RowKit.intOf] <;> omega
          · obtain rfl : i = m := by omega
            have HZ : Hid (Below w.heap.size w wr) := Lib.hid (on_trans HLS.out.2.2.2.out (by rw [hB1]; exact HB.out))
            clear HQ HR HB F1 F2
            go_wp2_with (first
              | (go_at_call 7; refine (HAl.out _).mono ?_; rintro e w9 ⟨rfl, hB⟩; have HZ := Lib.hid (on_trans HZ.out hB); clear hB))
            go_ret
            exact ⟨rfl, HZ.out⟩
  · obtain ⟨Q, hQ⟩ : ∃ Q, Q = B + 1 := ⟨_, rfl⟩
    obtain ⟨R, hR⟩ : ∃ R, R = B := ⟨_, rfl⟩
    go_wp2
    rw [← hR] at hI1
    rw [← hQ] at hI2
    rw [← hQ]
    obtain ⟨W2, hW2⟩ : ∃ W2, ((w3.alloc (.cells (zeros m) 3)).alloc (.cells (zeros m) 3)).drew = W2 := ⟨_, rfl⟩
    rw [hW2] at hI1 hI2 hBD hSD ⊢
    rw [show (⟨B, 0, none⟩ : Addr) = ⟨R, 0, none⟩ by rw [hR]]
    have hQ0 : B ≤ Q := by omega
    have hR0 : B ≤ R := by omega
    have hQ1 : Q < B + 2 := by omega
    have hR1 : R < B + 2 := by omega
    have hQR : Q ≠ R := by omega
    clear hQ hR hW2 hmk
    have hJ1 : Hid (IArr W2 Q (cntA false es ((0 : Nat) : Int) [])) := Lib.hid (by rw [show ((0 : Nat) : Int) = 0 from rfl, ← cntA_zero (back := false) (es := es) (fun e he => (r4 e he).1), hm]; exact hI2.out)
    have hJ2 : Hid (IArr W2 R (cntA true es ((0 : Nat) : Int) [])) := Lib.hid (by rw [show ((0 : Nat) : Int) = 0 from rfl, ← cntA_zero (back := true) (es := es) (fun e he => (r4 e he).2.2.1), hm]; exact hI1.out)
    clear hI1 hI2
    go_loopw [7] (fun i wr => ∃ k : Nat, k ≤ N ∧ i = .int .i64 k ∧ Hid (IArr wr Q (cntA false es k [])) ∧ Hid (IArr wr R (cntA true es k [])) ∧ Hid (Below B w3 wr) ∧ Hid (B + 2 ≤ wr.heap.size)) (fun i _ => N - (RowKit.intOf i).toNat)
    case atStart => exact ⟨0, by omega, rfl, hJ1, hJ2, hBD, hSD⟩
    case round =>
      obtain ⟨k, hk, rfl, HQ, HR, HB, HS⟩ := hrel
      clear hJ1 hJ2 hBD hSD
      have b0r := cell_lt HB.out hw1 b0
      have b1r := cell_lt HB.out hw1 b1
      by_cases hkn : k < N
      · have hk1 : (k : Int) < (N : Int) := by omega
        have hk0 : (0 : Int) ≤ (k : Int) := Int.natCast_nonneg _
        have HHr : Hid (HA Held w3 B p N es wr) := Lib.hid ⟨Lib.hid (S.on HB.out HH.out), Lib.hid (by have := HS.out; omega), Lib.hid (by rw [hB1]; exact HB.out)⟩
        have HO := Lib.hid (fun W (h : HA Held w3 B p N es W) => S.out B p N es k W h.2.1.out h.1.out hk0 hk1)
        have HI := Lib.hid (fun W (h : HA Held w3 B p N es W) => S.inn B p N es k W h.2.1.out h.1.out hk0 hk1)
        go_wp2_with (first
          | (go_at_call 9; refine (HO.out _ HHr.out).mono ?_; rintro e w4 ⟨u, rfl, hu, hB⟩; have HU := Lib.hid hu; have HH4 := Lib.hid (HHr.out.on S hB); have HQ4 := Lib.hid (HQ.out.on hB); have HR4 := Lib.hid (HR.out.on hB); have HB4 := Lib.hid hB; obtain ⟨au, cu, rfl⟩ := slice_form hu; clear hu hB)
          | (go_at_call 10; refine (HI.out _ HH4.out).mono ?_; rintro e w5 ⟨v, rfl, hv, hB⟩; have HV := Lib.hid hv; have HU5 := Lib.hid (owns_below HU.out hB (Nat.le_refl _)); have HH5 := Lib.hid (HH4.out.on S hB); have HQ5 := Lib.hid (HQ4.out.on hB); have HR5 := Lib.hid (HR4.out.on hB); have HB5 := Lib.hid hB; obtain ⟨av, cv, rfl⟩ := slice_form hv; clear hv hB))
        have HD0 : Hid (B + 2 ≤ w4.heap.size) := Lib.hid (by have h1 := HS.out; have h2 := HB4.out.size; omega)
        have HD1 := Lib.hid HB5.out.size
        obtain ⟨D, hD⟩ : ∃ D, w4.heap.size = D := ⟨_, rfl⟩
        have HB6 : Hid (Below B w3 w5) := Lib.hid (by rw [← hB1]; exact HH5.out.2.2.out)
        have HG0 : Hid (0 < (rowL false k es).length → ∃ g, au = some ⟨g, 0, none⟩ ∧ B + 2 ≤ g ∧ g < D ∧ IArr w5 g (spent (rowL false k es) 0)) := Lib.hid fun h => by
          obtain ⟨g, cap, h1, h2, h3, h4⟩ := owns_arr HU.out h
          have h5 := HS.out
          rw [spent_zero]
          refine ⟨g, by injection h1, by omega, by omega, h4.on HB5.out⟩
        have HM0 : Hid (0 < (rowL true k es).length → ∃ g, av = some ⟨g, 0, none⟩ ∧ D ≤ g ∧ IArr w5 g (natI (rowL true k es))) := Lib.hid fun h => by
          obtain ⟨g, cap, h1, h2, h3, h4⟩ := owns_arr HV.out h
          exact ⟨g, by injection h1, by omega, h4⟩
        have HEs : Hid (0 < m → ∃ b off, a = some ⟨b, off, none⟩ ∧ b < B ∧ ∀ (j : Nat) e, es[j]? = some e → w3.cell? ⟨b, off + j * 3, none⟩ = some (.int .i64 e.f) ∧ w3.cell? ⟨b, off + j * 3 + 1, none⟩ = some (.int .i64 e.t)) := Lib.hid fun h => by
          obtain ⟨a', c', h1, h2⟩ := edgesAt_flat HLS.out.2.2.1.out
          obtain ⟨b, off, h3, h4⟩ := h2 (by omega)
          obtain ⟨e, he⟩ : ∃ e, es[0]? = some e := ⟨_, List.getElem?_eq_getElem (by omega)⟩
          refine ⟨b, off, by injection h1 with h5; rw [h5, h3], ?_, fun j e he => ⟨(h4 j e he).1, (h4 j e he).2.1⟩⟩
          have := World.block_lt_of_cell? w3 _ (h4 0 e he).1
          rw [hB1] at this
          exact this
        have HZ0 : Hid (cntA false es k [] = cntA false es k ((rowL false k es).take 0)) := Lib.hid (by rw [List.take_zero])
        rw [HZ0.out] at HQ5
        rw [hD] at HD0 HD1
        have hl1 : (rowL false k es).length ≤ 300 := by have := rowK_le false k es es.length; unfold rowL; omega
        have hl2 : (rowL true k es).length ≤ 300 := by have := rowK_le true k es es.length; unfold rowL; omega
        clear HO HI HU HV HU5 HB4 HB5 HH4 HQ4 HR4 HZ0 HHr HQ HR HH5 b0r b1r HB HS
        go_wp2
        go_loopw [10] (fun i ws => ∃ i' : Nat, i' ≤ (rowL false k es).length ∧ i = .int .i64 i' ∧ Hid (IArr ws Q (cntA false es k ((rowL false k es).take i'))) ∧ Hid (IArr ws R (cntA true es k [])) ∧ Hid (0 < (rowL false k es).length → ∃ g, au = some ⟨g, 0, none⟩ ∧ B + 2 ≤ g ∧ g < D ∧ IArr ws g (spent (rowL false k es) i')) ∧ Hid (0 < (rowL true k es).length → ∃ g, av = some ⟨g, 0, none⟩ ∧ D ≤ g ∧ IArr ws g (natI (rowL true k es))) ∧ Hid (Below B w3 ws) ∧ Hid (D ≤ ws.heap.size)) (fun i _ => (rowL false k es).length - (RowKit.intOf i).toNat)
        case atStart => exact ⟨0, by omega, rfl, HQ5, HR5, HG0, HM0, HB6, HD1⟩
        case round =>
          obtain ⟨i, hi, rfl, HQ, HR, HG, HM, HB, HS⟩ := hrel
          clear HQ5 HR5 HG0 HM0 HB6 HD1
          have b1s := cell_lt HB.out hw1 b1
          by_cases hil : i < (rowL false k es).length
          · obtain ⟨j, hj⟩ : ∃ j, (rowL false k es)[i]? = some j := ⟨_, List.getElem?_eq_getElem hil⟩
            obtain ⟨⟨f, t, x⟩, he0, hb⟩ := rowL_at (List.mem_of_getElem? hj)
            obtain rfl : f = (k : Int) := (outB_end false _ _).1 hb
            have hjm : j < m := by have := (List.getElem?_eq_some_iff.1 he0).1; omega
            obtain ⟨b, off, rfl, hbB, hc⟩ := HEs.out (by omega)
            have e1 := cell_lt HB.out (show b < B by omega) (hc j _ he0).1
            obtain ⟨g, rfl, hg1, hg2, hg3⟩ := HG.out (by omega)
            simp only at e1
            have hdr := (Below.refl wr.heap.size wr).drew
            obtain ⟨wd, hwd⟩ : ∃ wd, wr.drew = wd := ⟨_, rfl⟩
            rw [hwd] at hdr
            have b1d := cell_on hdr b1s
            have e1 := cell_on hdr e1
            have HQ := Lib.hid (HQ.out.on hdr)
            have HR := Lib.hid (HR.out.on hdr)
            have hg3 := hg3.on hdr
            obtain ⟨l1, l2⟩ := hg3 i _ (spent_now hj)
            obtain ⟨q1, q2⟩ := HQ.out j _ (cntA_old hj he0)
            have HQ2 : Hid (IArr ((wd.setCell ⟨Q, j, none⟩ (.int .i64 1)).setCell ⟨g, i, none⟩ (.int .i64 (-1))) Q (cntA false es k ((rowL false k es).take (i + 1)))) := Lib.hid (by rw [← cntA_step hj he0]; exact (HQ.out.set _).other _ (by simp; omega))
            have HR2 : Hid (IArr ((wd.setCell ⟨Q, j, none⟩ (.int .i64 1)).setCell ⟨g, i, none⟩ (.int .i64 (-1))) R (cntA true es k [])) := Lib.hid ((HR.out.other _ hQR).other _ (by simp; omega))
            have HG2 : Hid (0 < (rowL false k es).length → ∃ g', some ⟨g, 0, none⟩ = some (⟨g', 0, none⟩ : Addr) ∧ B + 2 ≤ g' ∧ g' < D ∧ IArr ((wd.setCell ⟨Q, j, none⟩ (.int .i64 1)).setCell ⟨g, i, none⟩ (.int .i64 (-1))) g' (spent (rowL false k es) (i + 1))) := Lib.hid fun _ => ⟨g, rfl, hg1, hg2, by rw [← spent_step hil]; exact (hg3.other _ (by simp; omega)).set _⟩
            have HM2 : Hid (0 < (rowL true k es).length → ∃ g', av = some ⟨g', 0, none⟩ ∧ D ≤ g' ∧ IArr ((wd.setCell ⟨Q, j, none⟩ (.int .i64 1)).setCell ⟨g, i, none⟩ (.int .i64 (-1))) g' (natI (rowL true k es))) := Lib.hid fun h => by
              obtain ⟨g', h1, h2, h3⟩ := HM.out h
              have := HD0.out
              exact ⟨g', h1, h2, ((h3.on hdr).other _ (by simp; omega)).other _ (by simp; omega)⟩
            have HB2 : Hid (Below B w3 ((wd.setCell ⟨Q, j, none⟩ (.int .i64 1)).setCell ⟨g, i, none⟩ (.int .i64 (-1)))) := Lib.hid (((HB.out.trans (hdr.mono (by have := HS.out; have := HD0.out; omega))).setCell hQ0 _).setCell (by simp; omega) _)
            have HS2 : Hid (D ≤ ((wd.setCell ⟨Q, j, none⟩ (.int .i64 1)).setCell ⟨g, i, none⟩ (.int .i64 (-1))).heap.size) := Lib.hid (by have h1 := HS.out; have h2 := hdr.size; simp; omega)
            have l1' : (wd.setCell ⟨Q, j, none⟩ (.int .i64 1)).cell? ⟨g, i, none⟩ = some (.int .i64 j) := (World.cell?_setCell_other _ _ _ _ (by simp <;> omega)).trans l1
            have l2' : (wd.setCell ⟨Q, j, none⟩ (.int .i64 1)).frozen? ⟨g, i, none⟩ = false := by rw [World.frozen?_setCell]; exact l2
            have hi0 : (0 : Int) ≤ (i : Int) := Int.natCast_nonneg _
            have hi1 : (i : Int) < ((rowL false k es).length : Int) := by omega
            have hd1 : decide ((j : Int) < 0) = false := decide_eq_false (by omega)
            have hd2 : decide ((m : Int) ≤ (j : Int)) = false := decide_eq_false (by omega)
            have hd3 : decide (m ≤ j) = false := decide_eq_false (by omega)
            have hd4 : ((k : Int) != (k : Int)) = false := by simp
            have hj0 : (0 : Int) ≤ (j : Int) := Int.natCast_nonneg _
            have hj1 : (j : Int) < (m : Int) := by omega
            generalize (rowL false k es).length = LN at hi1 hl1 HG2 ⊢
            clear hj he0 hb hc hg3 HQ HR HG HM HB HS HEs
            go_wp2
            go_region_held3 (fun w' => w'.cell? ⟨w.heap.size, 1, none⟩ = some (.slice (some ⟨b, off, none⟩) m c) ∧ w'.cell? ⟨g, i, none⟩ = some (.int .i64 j) ∧ w'.cell? ⟨b, off + j * 3, none⟩ = some (.int .i64 k)) (exact hwd ▸ ⟨b1d, l1, e1⟩) (fail)
            rw [hwd]
            clear b1s hdr
            go_wp2
            go_roundw
            case rel => exact ⟨i + 1, by omega, by go_num, HQ2, HR2, HG2, HM2, HB2, HS2⟩
            case measure => simp [RowKit.intOf] <;> omega
          · obtain rfl : i = (rowL false k es).length := by omega
            rw [List.take_length, cntA_next] at HQ
            clear HG b1s
            obtain ⟨wz, rfl⟩ : ∃ wz : World, wz = wr := ⟨_, rfl⟩
            have HZ0 : Hid (cntA true es k [] = cntA true es k ((rowL true k es).take 0)) := Lib.hid (by rw [List.take_zero])
            rw [HZ0.out] at HR
            go_wp2
            go_loopw [11] (fun i ws => ∃ i' : Nat, i' ≤ (rowL true k es).length ∧ i = .int .i64 i' ∧ Hid (IArr ws Q (cntA false es (k + 1) [])) ∧ Hid (IArr ws R (cntA true es k ((rowL true k es).take i'))) ∧ Hid (0 < (rowL true k es).length → ∃ g, av = some ⟨g, 0, none⟩ ∧ D ≤ g ∧ IArr ws g (natI (rowL true k es))) ∧ Hid (Below B w3 ws) ∧ Hid (D ≤ ws.heap.size)) (fun i _ => (rowL true k es).length - (RowKit.intOf i).toNat)
            case atStart => exact ⟨0, by omega, rfl, HQ, HR, HM, HB, HS⟩
            case round =>
              clear HQ HR HM HB HS HZ0
              obtain ⟨i, hi, rfl, HQ, HR, HM, HB, HS⟩ := hrel
              have b1s := cell_lt HB.out hw1 b1
              by_cases hil : i < (rowL true k es).length
              · obtain ⟨j, hj⟩ : ∃ j, (rowL true k es)[i]? = some j := ⟨_, List.getElem?_eq_getElem hil⟩
                obtain ⟨⟨f, t, x⟩, he0, hb⟩ := rowL_at (List.mem_of_getElem? hj)
                obtain rfl : t = (k : Int) := (outB_end true _ _).1 hb
                have hjm : j < m := by have := (List.getElem?_eq_some_iff.1 he0).1; omega
                obtain ⟨b, off, rfl, hbB, hc⟩ := HEs.out (by omega)
                have e1 := cell_lt HB.out (show b < B by omega) (hc j _ he0).2
                obtain ⟨g, rfl, hg2, hg3⟩ := HM.out (by omega)
                simp only at e1
                have hdr := (Below.refl wr.heap.size wr).drew
                obtain ⟨wd, hwd⟩ : ∃ wd, wr.drew = wd := ⟨_, rfl⟩
                rw [hwd] at hdr
                have b1d := cell_on hdr b1s
                have e1 := cell_on hdr e1
                have HQ := Lib.hid (HQ.out.on hdr)
                have HR := Lib.hid (HR.out.on hdr)
                have hg3 := hg3.on hdr
                obtain ⟨l1, l2⟩ := hg3 i j (by unfold natI; rw [List.getElem?_map, hj]; rfl)
                obtain ⟨q1, q2⟩ := HR.out j _ (cntA_old hj he0)
                have HD0' := HD0.out
                have HQ2 : Hid (IArr (wd.setCell ⟨R, j, none⟩ (.int .i64 1)) Q (cntA false es (k + 1) [])) := Lib.hid (HQ.out.other _ (fun h => hQR h.symm))
                have HR2 : Hid (IArr (wd.setCell ⟨R, j, none⟩ (.int .i64 1)) R (cntA true es k ((rowL true k es).take (i + 1)))) := Lib.hid (by rw [← cntA_step hj he0]; exact HR.out.set _)
                have HM2 : Hid (0 < (rowL true k es).length → ∃ g', some ⟨g, 0, none⟩ = some (⟨g', 0, none⟩ : Addr) ∧ D ≤ g' ∧ IArr (wd.setCell ⟨R, j, none⟩ (.int .i64 1)) g' (natI (rowL true k es))) := Lib.hid fun _ => ⟨g, rfl, hg2, hg3.other _ (by simp; omega)⟩
                have HB2 : Hid (Below B w3 (wd.setCell ⟨R, j, none⟩ (.int .i64 1))) := Lib.hid ((HB.out.trans (hdr.mono (by have := HS.out; omega))).setCell hR0 _)
                have HS2 : Hid (D ≤ (wd.setCell ⟨R, j, none⟩ (.int .i64 1)).heap.size) := Lib.hid (by have h1 := HS.out; have h2 := hdr.size; simp; omega)
                have hi0 : (0 : Int) ≤ (i : Int) := Int.natCast_nonneg _
                have hi1 : (i : Int) < ((rowL true k es).length : Int) := by omega
                have hd1 : decide ((j : Int) < 0) = false := decide_eq_false (by omega)
                have hd3 : decide (m ≤ j) = false := decide_eq_false (by omega)
                have hd4 : ((k : Int) != (k : Int)) = false := by simp
                have hj0 : (0 : Int) ≤ (j : Int) := Int.natCast_nonneg _
                have hj1 : (j : Int) < (m : Int) := by omega
                generalize (rowL true k es).length = MN at hi1 hl2 HM2 ⊢
                clear hj he0 hb hc hg3 HQ HR HM HB HS HEs
                go_wp2
                go_region_held3 (fun w' => w'.cell? ⟨w.heap.size, 1, none⟩ = some (.slice (some ⟨b, off, none⟩) m c) ∧ w'.cell? ⟨g, i, none⟩ = some (.int .i64 j) ∧ w'.cell? ⟨b, off + j * 3 + 1, none⟩ = some (.int .i64 k)) (exact hwd ▸ ⟨b1d, l1, e1⟩) (fail)
                rw [hwd]
                clear b1s hdr
                go_wp2
                go_roundw
                case rel => exact ⟨i + 1, by omega, by go_num, HQ2, HR2, HM2, HB2, HS2⟩
                case measure => simp [RowKit.intOf] <;> omega
              · obtain rfl : i = (rowL true k es).length := by omega
                rw [List.take_length, cntA_next] at HR
                have hks : ((k + 1 : Nat) : Int) = (k : Int) + 1 := by omega
                rw [← hks] at HQ HR
                have hb3 : Below w3.heap.size w3 wr := by rw [hB1]; exact HB.out
                have HT : AO Held w3 B p N (.slice a m c) es w.heap.size Q R (cntA false es ((k + 1 : Nat) : Int) []) (cntA true es ((k + 1 : Nat) : Int) []) D wr := ⟨cell_on hb3 b0, b1s, Lib.hid (HLS.out.2.2.1.out.on hb3), Lib.hid ⟨Lib.hid (S.on HB.out HH.out), Lib.hid (by have h1 := HS.out; have h2 := HD0.out; omega), Lib.hid hb3⟩, HQ, HR, HS⟩
                have HO := Lib.hid (fun W (h : HA Held w3 B p N es W) => S.out B p N es k W h.2.1.out h.1.out hk0 hk1)
                have HRw := Lib.hid (fun W (h : EdgesAt W (.slice a m c) es) => rrow_any N k W (by omega) h)
                have HI := Lib.hid (fun W v1 v2 (h1 : IntsAt W v1 (natI (rowL false k es))) (h2 : IntsAt W v2 (natI (rowL false k es))) => isame_any (by simp [natI]; omega) W h1 h2)
                rw [decide_eq_true rfl] at HI
                generalize hX : cntA false es ((k + 1 : Nat) : Int) [] = X at HT HQ
                generalize hY : cntA true es ((k + 1 : Nat) : Int) [] = Y at HT HR
                clear HM b1s HQ HR HB HS hb3
                go_wp2
                go_region_held3 (fun w' => w'.cell? ⟨w.heap.size, 0, none⟩ = some (.int .i64 (N : Int)) ∧ w'.cell? ⟨w.heap.size, 1, none⟩ = some (.slice a m c) ∧ Hid (EdgesAt w' (.slice a m c) es) ∧ Hid (HA Held w3 B p N es w') ∧ Hid (IArr w' Q X) ∧ Hid (IArr w' R Y) ∧ Hid (D ≤ w'.heap.size))
                  (first
                    | exact AO.on S (Below.refl _ _).drew HT
                    | exact AO.on S hB ‹_›)
                  (first
                    | (go_at_call 9; refine (HO.out _ (show AO Held w3 B p N (.slice a m c) es w.heap.size Q R X Y D _ from ‹_›).2.2.2.1.out).mono ?_; rintro e w6 ⟨u, rfl, hu, hB⟩; have HU := Lib.hid (ints_own hu); clear hu)
                    | (go_at_call 12; refine (HRw.out _ (show AO Held w3 B p N (.slice a m c) es w.heap.size Q R X Y D _ from ‹_›).2.2.1.out).mono ?_; rintro e w7 ⟨u7, rfl, hu, hB⟩; have HU := Lib.hid (HU.out.on hB); have HU7 := Lib.hid hu; clear hu)
                    | (go_at_call 11; refine (HI.out _ _ _ HU.out HU7.out).mono ?_; rintro e w8 ⟨rfl, hB⟩))
                have HT8 := (show AO Held w3 B p N (.slice a m c) es w.heap.size Q R X Y D w8 from ‹_›)
                have Z1 := HT8.2.2.2.2.1
                have Z2 := HT8.2.2.2.2.2.1
                have Z3 : Hid (Below B w3 w8) := Lib.hid (by rw [← hB1]; exact HT8.2.2.2.1.out.2.2.out)
                have Z4 : Hid (B + 2 ≤ w8.heap.size) := Lib.hid (by have h1 := HT8.2.2.2.2.2.2.out; have h2 := HD0.out; omega)
                rw [← hX] at Z1
                rw [← hY] at Z2
                clear HT8 HU HU7 hB hX hY
                go_wp2
                go_roundw
                case rel => exact ⟨k + 1, by omega, by go_num, Z1, Z2, Z3, Z4⟩
                case measure => simp [RowKit.intOf] <;> omega
      · obtain rfl : k = N := by omega
        have F1 : Hid (∀ j, j < m → (cntA false es k [])[j]? = some 1) := Lib.hid fun j hj => cntA_full (fun e he => (r4 e he).2.1) (by omega)
        have F2 : Hid (∀ j, j < m → (cntA true es k [])[j]? = some 1) := Lib.hid fun j hj => cntA_full (fun e he => (r4 e he).2.2.2.1) (by omega)
        generalize cntA false es k [] = X at HQ F1
        generalize cntA true es k [] = Y at HR F2
        clear HS b1r
        go_wp2
        go_loopw [12] (fun i ws => ∃ i' : Nat, i' ≤ m ∧ i = .int .i64 i' ∧ Hid (IArr ws Q X) ∧ Hid (IArr ws R Y) ∧ Hid (Below B w3 ws)) (fun i _ => m - (RowKit.intOf i).toNat)
        case atStart => exact ⟨0, by omega, rfl, HQ, HR, HB⟩
        case round =>
          clear HQ HR HB
          obtain ⟨i, hi, rfl, HQ, HR, HB⟩ := hrel
          by_cases him : i < m
          · have hi0 : (0 : Int) ≤ (i : Int) := Int.natCast_nonneg _
            have hi1 : (i : Int) < (m : Int) := by omega
            have q1 := (HQ.out i _ (F1.out i him)).1
            have q2 := (HR.out i _ (F2.out i him)).1
            clear F1 F2
            go_wp2
            go_roundw
            case rel => exact ⟨i + 1, by omega, by go_num, HQ, HR, HB⟩
            case measure => simp [RowKit.intOf] <;> omega
          · obtain rfl : i = m := by omega
            have HZ : Hid (Below w.heap.size w wr) := Lib.hid (on_trans HLS.out.2.2.2.out (by rw [hB1]; exact HB.out))
            clear HQ HR HB F1 F2
            go_wp2_with (first
              | (go_at_call 7; refine (HAl.out _).mono ?_; rintro e w9 ⟨rfl, hB⟩; have HZ := Lib.hid (on_trans HZ.out hB); clear hB))
            go_ret
            exact ⟨rfl, HZ.out⟩
theorem aonce_any (S : AdjSpec Held) (n : Int) {v : Value} {es : List Ed} (w : World) (h : EdgesAt w v es) :
    Calls Try.prog 3 #[.agg #[.int .i64 n, v]] w fun e w' => e = .returned (.bool true) ∧ Below w.heap.size w w' := by
  have h' := h
  obtain ⟨a, c, rfl, _⟩ := h
  cases hl : lightB n es.length
  · exact aonce_heavy S n a _ c hl w
  · by_cases hr : rightF n es = 0
    · obtain ⟨N, rfl⟩ : ∃ N : Nat, n = N := ⟨n.toNat, by have := right_ends hr; omega⟩
      exact aonce_right S N es a _ c rfl hl hr w h'
    · exact aonce_wrong S n es a _ c rfl hl hr w h'
end Go.Proofs.Ytpbjknhoiehonaa
