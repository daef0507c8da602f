import Derived.Test.YtpbjknhoiehonaaAdjK
set_option linter.unusedVariables false
set_option linter.unusedSimpArgs false
namespace Go.Proofs.Ytpbjknhoiehonaa
open Go.RowKit
attribute [local go_sem ↓] Go.wp_at_zero Go.wp_at_succ
theorem wrap_small {x y : Nat} (h : x + y ≤ 100000) : IntKind.i64.wrap ((x : Int) + (y : Int)) = ((x + y : Nat) : Int) := by
  generalize hx : (x : Int) = a
  generalize hy : (y : Int) = b
  have h1 : 0 ≤ a ∧ 0 ≤ b ∧ a + b ≤ 100000 := by omega
  simp [IntKind.wrap, IntKind.bits, IntKind.signed]
  omega
set_option maxHeartbeats 1000000 in
/-- The closure that tells a row's bounds. -/
theorem bounds_at (B x y : Nat) (h : x + y ≤ 100000) (w : World) (c0 : w.cell? ⟨B, 0, none⟩ = some (.int .i64 (x : Int))) (f0 : w.frozen? ⟨B, 0, none⟩ = false) :
    Calls Try.prog 35 #[.int .i64 (y : Int), .pointer (some ⟨B, 0, none⟩)] w fun e w' => e = .returned (.tuple #[.int .i64 (x : Int), .int .i64 ((x + y : Nat) : Int)]) ∧ w' = (w.setCell ⟨B, 0, none⟩ (.int .i64 ((x + y : Nat) : Int))).drew := by
  have hw := wrap_small h
  have c1 : (w.setCell ⟨B, 0, none⟩ (.int .i64 ((x + y : Nat) : Int))).cell? ⟨B, 0, none⟩ = some (.int .i64 ((x + y : Nat) : Int)) := World.cell?_setCell_same _ _ _ c0
  have f1 : (w.setCell ⟨B, 0, none⟩ (.int .i64 ((x + y : Nat) : Int))).frozen? ⟨B, 0, none⟩ = false := by rw [World.frozen?_setCell]; exact f0
  generalize ((x + y : Nat) : Int) = z at *
  clear h
  go_enter Try.func35, Try.ntmps35
  go_wp2
  go_region
  all_goals go_wp2
  all_goals go_ret2
  all_goals exact ⟨rfl, rfl⟩
def nils (N : Nat) : Array Value := madeCells (Value.slice none 0 0).cells N
theorem infoRow : (Try.prog.info? 32).map (fun i => (i.zero, i.size, i.bytes)) = some (some (.slice none 0 0), 1, 24) := by kernel_rfl
theorem mkRows (N : Nat) (hN : N ≤ 1000000) (W : World) : (Instr.makeSlice 52 (.int .i64 (N : Int)) (.int .i64 (N : Int))).run Try.prog W = .ok (.slice (some ⟨W.heap.size, 0, none⟩) N N) (W.alloc (.cells (nils N) 32)) := by
  obtain ⟨i0, hi, hz0, hz1, hz2⟩ := info_parts infoRow
  have h := run_makeSlice (P := Try.prog) W 52 32 i0 (.slice none 0 0) Try.underlying52 hi hz0 .i64 .i64 (N : Int) (N : Int) (by omega) (by omega) (by rw [hz1]; omega) (by rw [hz2]; omega) (by omega)
  simpa [hz1, nils] using h
theorem nils_at {N j : Nat} (h : j < N) : (nils N)[j]? = some (.slice none 0 0) := by
  have h1 : j % 1 = 0 := Nat.mod_one j
  simp [nils, madeCells, Value.cells, h, h1]
/-- The first k of the rows are cut. -/
def CutI (W : World) (C X N : Nat) (d : Nat → Nat) (k : Nat) : Prop := ∀ u, u < N → W.cell? ⟨C, u, none⟩ = some (if u < k then .slice (some ⟨X, offC d u, none⟩) 0 (d u) else .slice none 0 0) ∧ W.frozen? ⟨C, u, none⟩ = false
theorem CutI.other {W : World} {C X N k : Nat} {d : Nat → Nat} (h : CutI W C X N d k) (q : Addr) (v : Value) (h1 : q.block ≠ C) : CutI (W.setCell q v) C X N d k := fun u hu =>
  ⟨by rw [World.cell?_setCell_other _ _ _ _ (fun e => h1 (by rw [e]))]; exact (h u hu).1, by rw [World.frozen?_setCell]; exact (h u hu).2⟩
theorem CutI.next {W : World} {C X N k : Nat} {d : Nat → Nat} (h : CutI W C X N d k) (hk : k < N) : CutI (W.setCell ⟨C, k, none⟩ (.slice (some ⟨X, offC d k, none⟩) 0 (d k))) C X N d (k + 1) := fun u hu => by
  refine ⟨?_, by rw [World.frozen?_setCell]; exact (h u hu).2⟩
  by_cases e : u = k
  · subst e
    rw [World.cell?_setCell_same _ _ _ (h u hu).1, if_pos (by omega)]
  · rw [World.cell?_setCell_other _ _ _ _ (by simp [e]), (h u hu).1]
    by_cases h1 : u < k
    · rw [if_pos h1, if_pos (by omega)]
    · rw [if_neg h1, if_neg (by omega)]
theorem CutI.drew {W : World} {C X N k : Nat} {d : Nat → Nat} (h : CutI W C X N d k) : CutI W.drew C X N d k := fun u hu => by simpa using h u hu
set_option maxHeartbeats 2000000 in
theorem rows_some (d : Nat → Nat) (N M : Nat) (hall : pre d N = M) (hM : M ≤ 16384) (hN : N ≤ 4096) (b o c : Nat) (w : World) (HD : Hid (∀ u, u < N → w.cell? ⟨b, o + u, none⟩ = some (.int .i64 ((d u : Nat) : Int)))) :
    Calls Try.prog 24 #[.slice (some ⟨b, o, none⟩) N c, .int .i64 (M : Int)] w fun e w' => ∃ C X, e = .returned (.slice (some ⟨C, 0, none⟩) N N) ∧ RowsI w' C X N M d (fun _ => []) ∧ w.heap.size ≤ X ∧ X < C ∧ C < w'.heap.size ∧ Below w.heap.size w w' := by
  have hmk1 := mkInts M (by omega)
  have hmk2 := mkRows N (by omega)
  have hM0 : (0 : Int) ≤ (M : Int) := Int.natCast_nonneg _
  have hN0 : (0 : Int) ≤ (N : Int) := Int.natCast_nonneg _
  go_enter Try.func24, Try.ntmps24
  go_wp2
  obtain ⟨A, hA⟩ : ∃ A, w.heap.size = A := ⟨_, rfl⟩
  obtain ⟨w0, hw0⟩ : ∃ w0, ((w.alloc (.cells (zeros M) 3)).alloc (.cells #[.int .i64 0] 3)).alloc (.cells (nils N) 32) = w0 := ⟨_, rfl⟩
  have HB0 : Hid (Below A w w0) := Lib.hid (by subst hw0 hA; exact (((Below.refl _ w).alloc (Nat.le_refl _) _).alloc (by simp) _).alloc (by simp; omega) _)
  have h1 : ∀ j, j < M → (w.alloc (.cells (zeros M) 3)).cell? ⟨A, j, none⟩ = some (.int .i64 0) ∧ (w.alloc (.cells (zeros M) 3)).frozen? ⟨A, j, none⟩ = false := fun j hj => by
    subst hA
    exact ⟨by have := zeros_at hj; simp [this], by simp⟩
  have hs1 : (w.alloc (.cells (zeros M) 3)).heap.size = A + 1 := by subst hA; simp
  obtain ⟨w1, hw1⟩ : ∃ w1, w.alloc (.cells (zeros M) 3) = w1 := ⟨_, rfl⟩
  rw [hw1] at h1 hs1
  have h2 : (w1.alloc (.cells #[.int .i64 0] 3)).cell? ⟨A + 1, 0, none⟩ = some (.int .i64 0) ∧ (w1.alloc (.cells #[.int .i64 0] 3)).frozen? ⟨A + 1, 0, none⟩ = false := by rw [← hs1]; simp
  have hs2 : (w1.alloc (.cells #[.int .i64 0] 3)).heap.size = A + 1 + 1 := by rw [← hs1]; simp
  have b1 : Below w1.heap.size w1 (w1.alloc (.cells #[.int .i64 0] 3)) := (Below.refl _ _).alloc (Nat.le_refl _) _
  obtain ⟨w2, hw2⟩ : ∃ w2, w1.alloc (.cells #[.int .i64 0] 3) = w2 := ⟨_, rfl⟩
  rw [hw2] at h2 hs2 b1
  have b2 : Below w2.heap.size w2 (w2.alloc (.cells (nils N) 32)) := (Below.refl _ _).alloc (Nat.le_refl _) _
  have h3 : ∀ u, u < N → (w2.alloc (.cells (nils N) 32)).cell? ⟨A + 1 + 1, u, none⟩ = some (.slice none 0 0) ∧ (w2.alloc (.cells (nils N) 32)).frozen? ⟨A + 1 + 1, u, none⟩ = false := fun u hu => by
    rw [← hs2]
    exact ⟨by have := nils_at hu; simp [this], by simp⟩
  have hs3 : (w2.alloc (.cells (nils N) 32)).heap.size = A + 3 := by simp [hs2]
  rw [hw1, hw2] at hw0
  rw [hw0] at b2 h3 hs3
  have HX0 : Hid (IArr w0 A (List.replicate M 0)) := Lib.hid fun j x hx => by
    have hj : j < M := by simpa using (List.getElem?_eq_some_iff.1 hx).1
    obtain rfl : x = 0 := by rw [List.getElem?_replicate, if_pos hj] at hx; exact (Option.some.inj hx).symm
    have k1 := cell_on b1 (h1 j hj).1
    exact ⟨cell_on b2 k1, frozen_on b2 k1 (frozen_on b1 (h1 j hj).1 (h1 j hj).2)⟩
  have e0 : w0.cell? ⟨A + 1, 0, none⟩ = some (.int .i64 ((pre d 0 : Nat) : Int)) := cell_on b2 h2.1
  have g0 : w0.frozen? ⟨A + 1, 0, none⟩ = false := frozen_on b2 h2.1 h2.2
  have HC0 : Hid (CutI w0 (A + 1 + 1) A N d 0) := Lib.hid fun u hu => by
    rw [if_neg (by omega)]
    exact h3 u hu
  have hs0 := hs3
  clear h1 h2 h3 b1 b2 hs1 hs2 hs3
  rw [hw1, hw2]
  rw [hw0, hA]
  clear hw0 hw1 hw2 hmk1 hmk2
  go_loopw [21] (fun i wr => ∃ u : Nat, u ≤ N ∧ i = .int .i64 u ∧ Hid (wr.cell? ⟨A + 1, 0, none⟩ = some (.int .i64 ((pre d u : Nat) : Int)) ∧ wr.frozen? ⟨A + 1, 0, none⟩ = false) ∧ Hid (IArr wr A (List.replicate M 0)) ∧ Hid (CutI wr (A + 1 + 1) A N d u) ∧ Hid (Below A w wr) ∧ Hid (wr.heap.size = A + 3)) (fun i _ => N - (RowKit.intOf i).toNat)
  case atStart => exact ⟨0, by omega, rfl, Lib.hid ⟨e0, g0⟩, HX0, HC0, HB0, Lib.hid hs0⟩
  case round =>
    clear e0 g0 HC0 HX0 HB0 hs0
    obtain ⟨u, hu, rfl, HE, HX, HC, HB, HS⟩ := hrel
    by_cases huN : u < N
    · have hd0 := HD.out u huN
      have hbA : b < A := by have := World.block_lt_of_cell? w _ hd0; simp only at this; omega
      have hd1 := cell_lt HB.out hbA hd0
      have q1 := HE.out.1
      have q2 := HE.out.2
      have hpm := pre_mono d (show u + 1 ≤ N by omega)
      have hps : pre d (u + 1) = pre d u + d u := rfl
      rw [hall] at hpm
      have hub : pre d u + d u ≤ 100000 := by omega
      have HCall := Lib.hid (fun W c0 f0 => bounds_at (A + 1) (pre d u) (d u) hub W c0 f0)
      have hcu := (HC.out u huN).1
      have hcf := (HC.out u huN).2
      rw [if_neg (by omega)] at hcu
      obtain ⟨z, hz⟩ : ∃ z, pre d u + d u = z := ⟨_, rfl⟩
      rw [hz] at HCall hps
      have ec : (wr.setCell ⟨A + 1, 0, none⟩ (.int .i64 (z : Int))).cell? ⟨A + 1 + 1, u, none⟩ = some (.slice none 0 0) := (World.cell?_setCell_other _ _ _ _ (by simp)).trans hcu
      have z1 : ((wr.setCell ⟨A + 1, 0, none⟩ (.int .i64 (z : Int))).drew).cell? ⟨A + 1 + 1, u, none⟩ = some (.slice none 0 0) := cell_on (Below.refl _ _).drew ec
      have z2 : ((wr.setCell ⟨A + 1, 0, none⟩ (.int .i64 (z : Int))).drew).frozen? ⟨A + 1 + 1, u, none⟩ = false := frozen_on (Below.refl _ _).drew ec (by rw [World.frozen?_setCell]; exact hcf)
      have HCn := Lib.hid ((HC.out.other ⟨A + 1, 0, none⟩ (.int .i64 (z : Int)) (by simp)).drew)
      have HEn : Hid ((wr.setCell ⟨A + 1, 0, none⟩ (.int .i64 (z : Int))).drew.cell? ⟨A + 1, 0, none⟩ = some (.int .i64 (z : Int)) ∧ (wr.setCell ⟨A + 1, 0, none⟩ (.int .i64 (z : Int))).drew.frozen? ⟨A + 1, 0, none⟩ = false) := Lib.hid ⟨cell_on (Below.refl _ _).drew (World.cell?_setCell_same _ _ _ q1), frozen_on (Below.refl _ _).drew (World.cell?_setCell_same _ _ _ q1) (by rw [World.frozen?_setCell]; exact q2)⟩
      have HXn := Lib.hid ((HX.out.other (q := ⟨A + 1, 0, none⟩) (.int .i64 (z : Int)) (by simp)).on (Below.refl _ _).drew)
      have HBn := Lib.hid ((HB.out.setCell (p := ⟨A + 1, 0, none⟩) (by simp) (.int .i64 (z : Int))).drew)
      have HSn : Hid ((wr.setCell ⟨A + 1, 0, none⟩ (.int .i64 (z : Int))).drew.heap.size = A + 3) := Lib.hid (by have := HS.out; simpa using this)
      have HP := Lib.hid hps
      have HO := Lib.hid (show offC d u = if d u = 0 then 0 else pre d u from rfl)
      clear hd0 hcu hcf HC HE HX HB HS ec hub
      generalize pre d u = p at *
      generalize hq : d u = d1 at *
      have HQ := Lib.hid hq
      clear hq
      have hpz : p ≤ z := by omega
      have hzM : z ≤ M := by omega
      clear hps hpm
      have hu0 : (0 : Int) ≤ (u : Int) := Int.natCast_nonneg _
      have hu1 : (u : Int) < (N : Int) := by omega
      have hb0 : (0 : Int) ≤ (p : Int) := Int.natCast_nonneg _
      have hb1 : (p : Int) ≤ (z : Int) := by omega
      have hb2 : (z : Int) ≤ (M : Int) := by omega
      have hb3 : (p : Int) ≤ (M : Int) := by omega
      go_wp2_with (go_at_call 35; refine (HCall.out _ q1 q2).mono ?_; rintro e w2 ⟨rfl, hw2⟩; rw [← hw2] at z1 z2 HCn HEn HXn HBn HSn; clear hw2 q1 q2)
      have hv : Value.slice (if z = p then some ⟨A, 0, none⟩ else some ⟨A, p, none⟩) 0 (z - p) = .slice (some ⟨A, offC d u, none⟩) 0 (d u) := by
        rw [HO.out, HQ.out, show z - p = d1 by omega]
        by_cases e : d1 = 0
        · rw [if_pos e, if_pos (by omega)]
        · rw [if_neg e, if_neg (by omega)]
      rw [hv]
      go_roundw
      case rel => exact ⟨u + 1, by omega, by go_num, Lib.hid ⟨(World.cell?_setCell_other _ _ _ _ (by simp)).trans (by rw [HP.out]; exact HEn.out.1), by rw [World.frozen?_setCell]; exact HEn.out.2⟩, Lib.hid (HXn.out.other _ (by simp <;> omega)), Lib.hid (HCn.out.next huN), Lib.hid (HBn.out.setCell (by simp <;> omega) _), Lib.hid (by have := HSn.out; simpa using this)⟩
      case measure => simp [RowKit.intOf] <;> omega
    · obtain rfl : u = N := by omega
      have H1 : RowsI wr (A + 1 + 1) A u M d (fun _ => []) := ⟨fun y hy => by
        have h1 := HC.out y hy
        rw [if_pos hy] at h1
        exact h1, fun y hy j i hj => by simp at hj, fun q hq => by
        have h1 := HX.out q 0 (by rw [List.getElem?_replicate, if_pos hq])
        exact ⟨⟨_, h1.1⟩, h1.2⟩⟩
      go_wp2
      go_ret
      exact ⟨_, _, rfl, H1, Nat.le_of_eq hA, by omega, by rw [HS.out]; omega, by rw [hA]; exact HB.out⟩
theorem rows_any (d : Nat → Nat) (N M : Nat) (hall : pre d N = M) (hM : M ≤ 16384) (h1 : 1 ≤ N) (hN : N ≤ 4096) {v : Value} (w : World) (h : IntsAt w v (natI ((List.range N).map d))) :
    Calls Try.prog 24 #[v, .int .i64 (M : Int)] w fun e w' => ∃ C X, e = .returned (.slice (some ⟨C, 0, none⟩) N N) ∧ RowsI w' C X N M d (fun _ => []) ∧ w.heap.size ≤ X ∧ X < C ∧ C < w'.heap.size ∧ Below w.heap.size w w' := by
  obtain ⟨a, c, rfl, hc, hg⟩ := h
  have hl : (natI ((List.range N).map d)).length = N := by simp [natI]
  obtain ⟨b, o, rfl, hcell⟩ := hg (by omega)
  rw [hl]
  refine rows_some d N M hall hM hN b o c w (Lib.hid fun u hu => hcell u _ ?_)
  unfold natI
  rw [List.getElem?_map, List.getElem?_map, List.getElem?_range hu]
  rfl
end Go.Proofs.Ytpbjknhoiehonaa
