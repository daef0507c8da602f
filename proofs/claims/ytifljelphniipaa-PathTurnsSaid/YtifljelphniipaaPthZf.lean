import Derived.Test.YtifljelphniipaaPthZe
import Derived.Test.YtifljelphniipaaPthE
set_option linter.unusedVariables false
set_option linter.unusedSimpArgs false
namespace Go.Proofs.Ytifljelphniipaa
open Go.RowKit
attribute [local go_sem ↓] Go.wp_at_zero Go.wp_at_succ
set_option maxHeartbeats 4000000 in
theorem pnodes8_some (n s : Int) (hs0 : 0 ≤ s) (hs1 : s < n) (es : List Ed) (a : Option Addr) (m c : Nat) (hm : es.length = m) (hm0 : m ≤ 100000) (l : List Int) (al : Option Addr) (ml cl : Nat) (hl : l.length = ml) (hl1 : ml ≤ 10000) (hok : okL m l = true) (w : World)
    (HC : Hid (0 < m → ∃ b off, a = some ⟨b, off, none⟩ ∧ ∀ (j : Nat) e, es[j]? = some e → w.cell? ⟨b, off + j * 3, none⟩ = some (.int .i64 e.f) ∧ w.cell? ⟨b, off + j * 3 + 1, none⟩ = some (.int .i64 e.t) ∧ w.cell? ⟨b, off + j * 3 + 2, none⟩ = some (.int .u64 (e.w : Int))))
    (HL : Hid (Ints l al ml w))
    (HE : Hid (∀ W, Below w.heap.size w W → Calls Try.prog 33 #[.agg #[.int .i64 n, .slice a m c], .slice (some ⟨W.heap.size, 0, none⟩) 1 1] (W.alloc (.cells #[.slice al ml cl] 25)) fun e w' => e = .returned (.bool true) ∧ Below W.heap.size W w')) :
    Calls Try.prog 9 #[.agg #[.int .i64 n, .slice a m c], .int .i64 s, .slice al ml cl] w fun e w' => ∃ v, e = .returned (.tuple #[v, .bool (nodesK es l s ml).isSome]) ∧ IntsAt w' v ((nodesK es l s ml).getD []) ∧ Below w.heap.size w w' := by
  have HB0 := Lib.hid ((Below.refl w.heap.size w).alloc (Nat.le_refl _) (.cells #[.int .i64 n, .slice a m c] 24))
  have HOk := Lib.hid (fun x (hx : x ∈ l) => okL_at hok hx)
  have HN := Lib.hid (fun W => pnode_any n s (.slice a m c) W)
  rw [show nodeB n s = true by simp [nodeB, hs0, hs1]] at HN
  have hl2 : (ml : Int) ≤ 10000 := by omega
  have hm1 : (m : Int) ≤ 100000 := by omega
  obtain ⟨i0, hi, hz0, hz1, hz2⟩ := info_parts infoInt
  clear hok
  go_enter Try.func9, Try.ntmps9
  go_wp2_with (first
    | (go_at_call 32; refine (HN.out _).mono ?_; rintro e w0 ⟨rfl, hB⟩; have b0 := cell_on hB (p := ⟨w.heap.size, 0, none⟩) (v := .int .i64 n) (by simp); have b1 := cell_on hB (p := ⟨w.heap.size, 1, none⟩) (v := .slice a m c) (by simp); have HBn := Lib.hid (on_trans HB0.out hB); clear hB HN)
    | (go_at_call 33; refine (HE.out _ HBn.out).mono ?_; rintro e w1 ⟨rfl, hB⟩; have b0 := cell_on hB b0; have b1 := cell_on hB b1; have HB1 := Lib.hid (on_trans HBn.out hB); clear hB HE))
  have hPw : w.heap.size < w1.heap.size := World.block_lt_of_cell? w1 _ b1
  have HO0 : Hid ((w1.alloc (.cells #[.int .i64 s] 3)).ownsRow w1.heap.size 3 1 (.slice (some ⟨w1.heap.size, 0, none⟩) 1 1) (0 + 1) (intV [s])) := Lib.hid (owns_fullI w1 [.int .i64 s] w1.heap.size 1 3 (Nat.le_refl _) rfl (by unfold maxLen; omega))
  have HBa : Hid (Below w1.heap.size w1 (w1.alloc (.cells #[.int .i64 s] 3))) := Lib.hid ((Below.refl _ _).alloc (Nat.le_refl _) _)
  go_loopw [8, 9, 29] (fun v y i wr => ∃ (k : Nat) (out : List Int), k ≤ ml ∧ i = .int .i64 k ∧ y = .int .i64 (lastI out) ∧ out.length = k + 1 ∧ Hid (nodesK es l s k = some out) ∧ Hid (wr.ownsRow w1.heap.size 3 1 v (k + 1) (intV out)) ∧ Hid (Below w1.heap.size w1 wr)) (fun _ _ i _ => ml - (RowKit.intOf i).toNat)
  case atStart => exact ⟨0, [s], by omega, rfl, rfl, rfl, Lib.hid rfl, HO0, HBa⟩
  case round =>
    obtain ⟨k, out, hk, rfl, rfl, hout, HA, HO, HB⟩ := hrel
    obtain ⟨gg, cap, rfl, hg1, hg2⟩ := HO.out.form (by omega)
    by_cases hkm : k < ml
    · obtain ⟨bl, ol, rfl, hcl⟩ := HL.out (by omega)
      have hx0 : l[k]? = some (l[k]'(by omega)) := List.getElem?_eq_getElem (by omega)
      obtain ⟨xk, hxk⟩ : ∃ xk, l[k]'(by omega) = xk := ⟨_, rfl⟩
      rw [hxk] at hx0
      obtain ⟨z0, z1⟩ := HOk.out xk (List.mem_of_getElem? hx0)
      obtain ⟨X, rfl⟩ : ∃ X : Nat, xk = X := ⟨xk.toNat, by omega⟩
      obtain ⟨b, off, rfl, hc⟩ := HC.out (by omega)
      have he0 : es[X]? = some (es[X]'(by omega)) := List.getElem?_eq_getElem (by omega)
      obtain ⟨⟨f, t, x⟩, he⟩ : ∃ e, es[X]'(by omega) = e := ⟨_, rfl⟩
      rw [he] at he0
      obtain ⟨e1, e2, e3⟩ := hc X _ he0
      simp only at e1 e2 e3
      have e1 := cell_on HB.out (cell_on HB1.out e1)
      have e2 := cell_on HB.out (cell_on HB1.out e2)
      have e3 := cell_on HB.out (cell_on HB1.out e3)
      have e4 := cell_on HB.out (cell_on HB1.out (hcl k _ hx0))
      have g1 := cell_on HB.out b1
      have HS := Lib.hid (nodesK_step HA.out hx0 he0)
      obtain ⟨y, hy⟩ : ∃ y, lastI out = y := ⟨_, rfl⟩
      rw [hy] at HS
      have hi0 : (0 : Int) ≤ (k : Int) := Int.natCast_nonneg _
      have hi1 : (k : Int) < (ml : Int) := by omega
      have hPw' : w.heap.size < wr.heap.size := Nat.lt_of_lt_of_le hPw HB.out.size
      have hbw : b < wr.heap.size := World.block_lt_of_cell? wr _ e1
      have hblw : bl < wr.heap.size := World.block_lt_of_cell? wr _ e4
      rw [hy]
      clear hxk hx0 he he0 hc hcl HC HL HOk b0 b1 HO0 HBa
      by_cases hfy : f = y
      · have q3 : (f != y) = false := by simp [hfy]
        have HN : Hid (nodesK es l s (k + 1) = some (out ++ [t])) := Lib.hid (by rw [HS.out, if_pos hfy])
        have hbb := HB.out.alloc HB.out.size (.cells #[.int .i64 f, .int .i64 t, .int .u64 (x : Int)] 56)
        have HBb := Lib.hid hbb.drew
        have HOb := Lib.hid ((HO.out.alloc (.cells #[.int .i64 f, .int .i64 t, .int .u64 (x : Int)] 56)).drew)
        have hsz := HB.out.size
        have E0 : (wr.alloc (.cells #[.int .i64 f, .int .i64 t, .int .u64 (x : Int)] 56)).drew.cell? ⟨wr.heap.size, 0, none⟩ = some (.int .i64 f) := by simp
        have E1 : (wr.alloc (.cells #[.int .i64 f, .int .i64 t, .int .u64 (x : Int)] 56)).drew.cell? ⟨wr.heap.size, 1, none⟩ = some (.int .i64 t) := by simp
        have HBx := Lib.hid ((Below.refl _ (wr.alloc (.cells #[.int .i64 f, .int .i64 t, .int .u64 (x : Int)] 56)).drew).alloc (Nat.le_refl _) (.cells #[.int .i64 t] 3))
        have HNb := Lib.hid (heap_alloc_new (wr.alloc (.cells #[.int .i64 f, .int .i64 t, .int .u64 (x : Int)] 56)).drew (.cells #[.int .i64 t] 3))
        rw [show (wr.alloc (.cells #[.int .i64 f, .int .i64 t, .int .u64 (x : Int)] 56)).drew.heap.size = wr.heap.size + 1 by simp] at HNb
        clear HS HA hfy hbb
        go_wp2
        refine wp_region_held_drew (S := fun w' => w'.cell? ⟨wr.heap.size, 0, none⟩ = some (.int .i64 f) ∧ w'.cell? ⟨wr.heap.size, 1, none⟩ = some (.int .i64 t)) (by kernel_rfl) ?_ (fun hHeld => ?_)
        · exact ⟨E0, E1⟩
        refine wpAnyH_take (i := 0) (v := ?_) rfl (by kernel_rfl) (by kernel_rfl) (by kernel_rfl) (fun _ _ _ h => h) (Or.inl ⟨by rfl, ?_⟩) (by assumption) ?_
        rotate_left 1
        · intro w hSw
          obtain ⟨s0, s1⟩ := hSw
          go_simp
          try with_reducible rfl
        try simp only [Act.put, List.getElem_toArray, List.getElem_cons_succ, List.getElem_cons_zero, List.setIfInBounds_toArray, List.set_cons_zero, List.set_cons_succ]
        refine wpAnyH_take (i := 1) (v := ?_) rfl (by kernel_rfl) (by kernel_rfl) (by kernel_rfl) (fun _ _ _ h => h) (Or.inl ⟨by rfl, ?_⟩) (by assumption) ?_
        rotate_left 1
        · intro w hSw
          obtain ⟨s0, s1⟩ := hSw
          go_simp
          try with_reducible rfl
        try simp only [Act.put, List.getElem_toArray, List.getElem_cons_succ, List.getElem_cons_zero, List.setIfInBounds_toArray, List.set_cons_zero, List.set_cons_succ]
        refine wpAnyH_take (i := 2) (v := ?_) rfl (by kernel_rfl) (by kernel_rfl) (by kernel_rfl) (fun _ _ _ h => h) (Or.inl ⟨by rfl, ?_⟩) (by assumption) ?_
        rotate_left 1
        · intro w hSw
          obtain ⟨s0, s1⟩ := hSw
          go_simp
          try with_reducible rfl
        try simp only [Act.put, List.getElem_toArray, List.getElem_cons_succ, List.getElem_cons_zero, List.setIfInBounds_toArray, List.set_cons_zero, List.set_cons_succ]
        refine wpAnyH_take (i := 5) (v := ?_) rfl (by kernel_rfl) (by kernel_rfl) (by kernel_rfl) (fun _ _ _ h => h) (Or.inl ⟨by rfl, ?_⟩) (by assumption) ?_
        rotate_left 1
        · intro w hSw
          obtain ⟨s0, s1⟩ := hSw
          go_simp
          try with_reducible rfl
        try simp only [Act.put, List.getElem_toArray, List.getElem_cons_succ, List.getElem_cons_zero, List.setIfInBounds_toArray, List.set_cons_zero, List.set_cons_succ]
        refine wpAnyH_take (i := 6) (v := ?_) rfl (by kernel_rfl) (by kernel_rfl) (by kernel_rfl) (fun _ _ _ h => h) (Or.inl ⟨by rfl, ?_⟩) (by assumption) ?_
        rotate_left 1
        · intro w hSw
          obtain ⟨s0, s1⟩ := hSw
          go_simp
          try with_reducible rfl
        try simp only [Act.put, List.getElem_toArray, List.getElem_cons_succ, List.getElem_cons_zero, List.setIfInBounds_toArray, List.set_cons_zero, List.set_cons_succ]
        refine wpAnyH_ready (rs := [3]) (by kernel_rfl) (by simp) ?_
        refine AllReadyH.cons rfl (fun K hK => ?_) AllReadyH.nil
        go_simp
        refine hK.out _ _ (⟨cell_on HBx.out E0, cell_on HBx.out E1⟩) (fun hHeld => ?_)
        clear hK K
        try simp only [Act.put, List.getElem_toArray, List.getElem_cons_succ, List.getElem_cons_zero, List.setIfInBounds_toArray, List.set_cons_zero, List.set_cons_succ]
        refine wpAnyH_ready (rs := [4]) (by kernel_rfl) (by simp) ?_
        refine AllReadyH.cons rfl (fun K hK => ?_) AllReadyH.nil
        refine step_append_lies _ (by rfl) _ _ _ (by rfl) w1.heap.size 3 i0 _ 1 8 Try.underlying25 hi hz0 hz1 hz2 rfl (by omega) _ (k + 1) _ (by rfl) (HOb.out.alloc _) ⟨wr.heap.size + 1, 0, none⟩ 1 1 [.int .i64 t] (by rfl) (by rfl) (World.news_of_block (cs := #[.int .i64 t]) (t := 3) (fr := (0, 0)) HNb.out) (by simp [Value.oneCell']) (by omega) (by unfold maxLen; omega) (by omega) (by simp; omega) (wr.heap.size + 1 + 1) (by simp) ?_
        intro gg2 cap2 w5 hown hgrow hat hlt
        refine hK.out _ _ (⟨far_cell hgrow (by simp [Value.ownBlock]; omega) (cell_on HBx.out E0), far_cell hgrow (by simp [Value.ownBlock]; omega) (cell_on HBx.out E1)⟩) (fun hHeld => ?_)
        clear hK K
        try simp only [Act.put, List.getElem_toArray, List.getElem_cons_succ, List.getElem_cons_zero, List.setIfInBounds_toArray, List.set_cons_zero, List.set_cons_succ]
        refine wpAnyH_ready (rs := [7]) (by kernel_rfl) (by simp) ?_
        refine AllReadyH.cons rfl (fun K hK => ?_) AllReadyH.nil
        go_simp
        refine hK.out _ _ (hHeld) (fun hHeld => ?_)
        clear hK K
        try simp only [Act.put, List.getElem_toArray, List.getElem_cons_succ, List.getElem_cons_zero, List.setIfInBounds_toArray, List.set_cons_zero, List.set_cons_succ]
        refine wpAnyH_ready (rs := [8]) (by kernel_rfl) (by simp) ?_
        refine AllReadyH.cons rfl (fun K hK => ?_) AllReadyH.nil
        go_simp
        refine hK.out _ _ (hHeld) (fun hHeld => ?_)
        clear hK K
        try simp only [Act.put, List.getElem_toArray, List.getElem_cons_succ, List.getElem_cons_zero, List.setIfInBounds_toArray, List.set_cons_zero, List.set_cons_succ]
        refine wpAnyH_done (by kernel_rfl) ?_ _
        have HO5 : Hid (w5.ownsRow w1.heap.size 3 1 (.slice (some ⟨gg2, 0, none⟩) (k + 1 + 1) cap2) (k + 1 + 1) (intV (out ++ [t]))) := Lib.hid (by rw [intV_snoc]; exact hown)
        have HB5 := Lib.hid (below_growE (HBb.out.alloc HBb.out.size (.cells #[.int .i64 t] 3)) (Nat.le_refl _) (by simp; omega) (HOb.out.alloc (.cells #[.int .i64 t] 3)) hgrow)
        have hlen : (out ++ [t]).length = k + 1 + 1 := by simp [hout]
        clear hown hgrow hat hlt HO HB HBb HOb e1 e2 e3 e4 g1 hHeld E0 E1 HBx HNb
        go_wp2
        go_roundw
        case rel => exact ⟨k + 1, out ++ [t], by omega, by go_num, by rw [lastI_snoc], hlen, HN, HO5, HB5⟩
        case measure => simp [RowKit.intOf] <;> omega
      · have q3 : (f != y) = true := by rw [bne_iff_ne]; exact hfy
        have HN : Hid (nodesK es l s ml = none) := Lib.hid (nodesK_none (k := k + 1) (by rw [HS.out]; simp [hfy]) ml (by omega))
        have hbb := HB.out.alloc HB.out.size (.cells #[.int .i64 f, .int .i64 t, .int .u64 (x : Int)] 56)
        have HZ := Lib.hid (HB1.out.trans (hbb.mono HB1.out.size))
        clear HS hfy hbb
        go_wp2
        go_ret2
        exact ⟨_, by rw [HN.out]; rfl, by rw [HN.out]; exact ints_nil _, HZ.out⟩
    · obtain rfl : k = ml := by omega
      have HS : Hid (IntsAt wr (.slice (some ⟨gg, 0, none⟩) (k + 1) cap) out) := Lib.hid (ints_own8 (by rw [hout]; exact HO.out))
      have HZ := Lib.hid (HB1.out.trans (HB.out.mono HB1.out.size))
      go_wp2
      go_ret2
      exact ⟨_, by rw [HA.out]; rfl, by rw [HA.out]; exact HS.out, HZ.out⟩
set_option maxHeartbeats 1000000 in
theorem pnodes8_no (n s : Int) (a : Option Addr) (m c : Nat) (al : Option Addr) (ml cl : Nat) (F G : Bool) (hF : F = false ∨ G = false) (hG : nodeB n s = G) (w : World)
    (HE : Hid (∀ W, Below w.heap.size w W → Calls Try.prog 33 #[.agg #[.int .i64 n, .slice a m c], .slice (some ⟨W.heap.size, 0, none⟩) 1 1] (W.alloc (.cells #[.slice al ml cl] 25)) fun e w' => e = .returned (.bool F) ∧ Below W.heap.size W w')) :
    Calls Try.prog 9 #[.agg #[.int .i64 n, .slice a m c], .int .i64 s, .slice al ml cl] w fun e w' => e = .returned (.tuple #[.slice none 0 0, .bool false]) ∧ Below w.heap.size w w' := by
  have HB0 := Lib.hid ((Below.refl w.heap.size w).alloc (Nat.le_refl _) (.cells #[.int .i64 n, .slice a m c] 24))
  have HN := Lib.hid (fun W => pnode_any n s (.slice a m c) W)
  rw [hG] at HN
  clear hG
  cases G
  · clear hF HE
    go_enter Try.func9, Try.ntmps9
    go_wp2_with (go_at_call 32; refine (HN.out _).mono ?_; rintro e w0 ⟨rfl, hB⟩; have HBn := Lib.hid (on_trans HB0.out hB); clear hB HN)
    go_ret2
    exact ⟨rfl, HBn.out⟩
  · obtain rfl : F = false := by simpa using hF
    clear hF
    go_enter Try.func9, Try.ntmps9
    go_wp2_with (first
      | (go_at_call 32; refine (HN.out _).mono ?_; rintro e w0 ⟨rfl, hB⟩; have b0 := cell_on hB (p := ⟨w.heap.size, 0, none⟩) (v := .int .i64 n) (by simp); have b1 := cell_on hB (p := ⟨w.heap.size, 1, none⟩) (v := .slice a m c) (by simp); have HBn := Lib.hid (on_trans HB0.out hB); clear hB HN)
      | (go_at_call 33; refine (HE.out _ HBn.out).mono ?_; rintro e w1 ⟨rfl, hB⟩; have HB1 := Lib.hid (on_trans HBn.out hB); clear hB HE))
    go_ret2
    exact ⟨rfl, HB1.out⟩
theorem nodeB_iff (n s : Int) : nodeB n s = true ↔ 0 ≤ s ∧ s < n := by simp [nodeB]
theorem pnodes8_any (n s : Int) {v u : Value} {es : List Ed} {l : List Int} (hl : l.length ≤ 10000) (he : es.length ≤ 100000) (w : World) (h : EdgesAt w v es) (hi : IntsAt w u l) :
    Calls Try.prog 9 #[.agg #[.int .i64 n, v], .int .i64 s, u] w fun e w' => ∃ v', e = .returned (.tuple #[v', .bool (nodesO n es s l).isSome]) ∧ IntsAt w' v' ((nodesO n es s l).getD []) ∧ Below w.heap.size w w' := by
  have h' := h
  obtain ⟨a, c, rfl, g⟩ := edgesAt_flat h
  obtain ⟨al, cl, rfl, _, k⟩ := hi
  have HE := Lib.hid (pusable_one n a es.length c es rfl l al l.length cl rfl (by omega) w h' (Lib.hid k))
  unfold nodesO
  cases hF : edF n es l
  · rw [if_neg (by simp)]
    rw [hF] at HE
    exact (pnodes8_no n s a es.length c al l.length cl false _ (.inl rfl) rfl w HE).mono fun e w' ⟨e1, e2⟩ => ⟨_, e1, ints_nil _, e2⟩
  · rw [hF] at HE
    by_cases h0 : 0 ≤ s ∧ s < n
    · rw [if_pos ⟨rfl, h0⟩]
      exact pnodes8_some n s h0.1 h0.2 es a es.length c rfl he l al l.length cl rfl hl (edF_ok hF).2 w (Lib.hid g) (Lib.hid k) HE
    · rw [if_neg (fun x => h0 x.2)]
      exact (pnodes8_no n s a es.length c al l.length cl true false (.inr rfl) (by cases hb : nodeB n s; rfl; exact absurd ((nodeB_iff n s).1 hb) h0) w HE).mono fun e w' ⟨e1, e2⟩ => ⟨_, e1, ints_nil _, e2⟩
set_option maxHeartbeats 1000000 in
theorem pis8_any (n s t : Int) {v u : Value} {es : List Ed} {l : List Int} (hl : l.length ≤ 10000) (he : es.length ≤ 100000) (w : World) (h : EdgesAt w v es) (hi : IntsAt w u l) :
    Calls Try.prog 14 #[.agg #[.int .i64 n, v], .int .i64 s, .int .i64 t, u] w fun e w' => e = .returned (.bool (isF n es s t l)) ∧ Below w.heap.size w w' := by
  have HN := Lib.hid (fun W (hB : Below w.heap.size w W) => pnodes8_any n s hl he W (h.on hB) (hi.on hB))
  obtain ⟨a, c, rfl, g⟩ := edgesAt_flat h
  obtain ⟨al, cl, rfl, _, _⟩ := hi
  have HB0 := Lib.hid ((Below.refl w.heap.size w).alloc (Nat.le_refl _) (.cells #[.int .i64 n, .slice a es.length c] 24))
  unfold isF
  cases hO : nodesO n es s l with
  | none =>
    rw [hO] at HN
    simp only [Option.isSome_none, Option.getD_none] at HN ⊢
    clear g h
    go_enter Try.func14, Try.ntmps14
    go_wp2_with (go_at_call 9; refine (HN.out _ HB0.out).mono ?_; rintro e w1 ⟨v1, rfl, hI, hB⟩; have HB1 := Lib.hid (on_trans HB0.out hB); clear hI hB HN)
    go_ret
    exact ⟨rfl, HB1.out⟩
  | some out =>
    rw [hO] at HN
    simp only [Option.isSome_some, Option.getD_some] at HN ⊢
    obtain ⟨m, hm⟩ : ∃ m, l.length = m := ⟨_, rfl⟩
    obtain ⟨o0, y, rfl, ho⟩ := snoc_of (nodesO_len hO)
    rw [lastI_snoc]
    have hlen : (o0 ++ [y]).length = m + 1 := by simp [ho, hm]
    have hm1 : (m : Int) ≤ 10000 := by omega
    have HOp : Hid (∀ W v', IntsAt W v' (o0 ++ [y]) → ∃ b off c', v' = .slice (some ⟨b, off, none⟩) (m + 1) c' ∧ W.cell? ⟨b, off + m, none⟩ = some (.int .i64 y)) := Lib.hid fun W v' hI => by
      obtain ⟨a', c', rfl, _, k⟩ := hI
      obtain ⟨b, off, rfl, hc⟩ := k (by omega)
      exact ⟨b, off, c', by rw [hlen], hc m y (by rw [List.getElem?_append_right (by omega)]; simp [ho, hm])⟩
    rw [hm] at HN ⊢
    clear g h hO ho hlen hm hl
    go_enter Try.func14, Try.ntmps14
    go_wp2_with (go_at_call 9; refine (HN.out _ HB0.out).mono ?_; rintro e w1 ⟨v1, rfl, hI, hB⟩; obtain ⟨b, off, c1, rfl, e0⟩ := HOp.out _ _ hI; have HB1 := Lib.hid (on_trans HB0.out hB); clear hI hB HN HOp)
    go_ret
    exact ⟨rfl, HB1.out⟩
end Go.Proofs.Ytifljelphniipaa
