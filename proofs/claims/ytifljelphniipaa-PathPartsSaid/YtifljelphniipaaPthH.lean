import Derived.Test.YtifljelphniipaaPthG
set_option linter.unusedVariables false
set_option linter.unusedSimpArgs false
namespace Go.Proofs.Ytifljelphniipaa
open Go.RowKit
attribute [local go_sem ↓] Go.wp_at_zero Go.wp_at_succ
def Nats (l : List Nat) (a : Option Addr) (m : Nat) (w : World) : Prop := 0 < m → ∃ b off, a = some ⟨b, off, none⟩ ∧ ∀ (j : Nat) x, l[j]? = some x → w.cell? ⟨b, off + j, none⟩ = some (.int .u64 (x : Int))
theorem Nats.on {l : List Nat} {a : Option Addr} {m : Nat} {w w1 : World} (h : Nats l a m w) (hb : Below w.heap.size w w1) : Nats l a m w1 := fun h0 => by
  obtain ⟨b, off, e, hc⟩ := h h0
  exact ⟨b, off, e, fun j x hx => cell_on hb (hc j x hx)⟩
/-- A slice value that reads as these words. -/
def NatsAt (w : World) (v : Value) (xs : List Nat) : Prop := ∃ (a : Option Addr) (c : Nat), v = .slice a xs.length c ∧ xs.length ≤ c ∧ Nats xs a xs.length w
theorem NatsAt.on {w w1 : World} (hb : Below w.heap.size w w1) {v : Value} {xs : List Nat} (h : NatsAt w v xs) : NatsAt w1 v xs := by
  obtain ⟨a, c, e, hc, h⟩ := h
  exact ⟨a, c, e, hc, h.on hb⟩
theorem nats_nil (w : World) : NatsAt w (.slice none 0 0) [] := ⟨none, 0, rfl, Nat.le_refl _, fun h => absurd h (by simp)⟩
def wordV (l : List Nat) : List Value := l.map fun (x : Nat) => Value.int .u64 (x : Int)
theorem wordV_snoc (l : List Nat) (x : Nat) : wordV (l ++ [x]) = wordV l ++ [.int .u64 (x : Int)] := by simp [wordV]
theorem nats_own8 {w : World} {base : Nat} {ty : TypeId} {v : Value} {l : List Nat} (h : w.ownsRow base ty 1 v l.length (wordV l)) : NatsAt w v l := by
  have h' := h
  rcases h.2 with ⟨rfl, h0⟩ | ⟨g, cap, cur, rfl, _, _, hc, _⟩
  · exact ⟨none, 0, by rw [h0], by omega, fun h1 => by omega⟩
  · refine ⟨_, cap, rfl, hc, fun _ => ⟨g, 0, rfl, fun j x hx => ?_⟩⟩
    have hj : j < l.length := (List.getElem?_eq_some_iff.1 hx).1
    have e1 := h'.cellAt j (by simpa [wordV] using hj)
    rw [Nat.zero_add, e1]
    simp [wordV, hx]
theorem infoU64 : (Try.prog.info? 30).map (fun i => (i.zero, i.size, i.bytes)) = some (some (.int .u64 0), 1, 8) := by kernel_rfl
/-- Offsets: what the first k weigh, k from 0 on. -/
def offK (es : List Ed) (l : List Int) (k : Nat) : List Nat := (List.range (k + 1)).map fun j => sumL es (l.take j) % 18446744073709551616
theorem offK_succ (es : List Ed) (l : List Int) (k : Nat) : offK es l (k + 1) = offK es l k ++ [sumL es (l.take (k + 1)) % 18446744073709551616] := by
  unfold offK
  rw [List.range_succ, List.map_append]
  rfl
theorem offK_len (es : List Ed) (l : List Int) (k : Nat) : (offK es l k).length = k + 1 := by simp [offK]
theorem offK_at (es : List Ed) (l : List Int) (k : Nat) : (offK es l k)[k]? = some (sumL es (l.take k) % 18446744073709551616) := by
  unfold offK
  rw [List.getElem?_map, List.getElem?_range (by omega)]
  rfl
def offF (n : Int) (es : List Ed) (l : List Int) : List Nat := if edF n es l = true then offK es l l.length else []
set_option maxHeartbeats 1000000 in
theorem roff8_no (n : Int) (E U : Value) (w : World)
    (HE : Hid (∀ W, Below w.heap.size w W → Calls Try.prog 34 #[.agg #[.int .i64 n, E], U] W fun e w' => e = .returned (.bool false) ∧ Below W.heap.size W w')) :
    Calls Try.prog 20 #[.agg #[.int .i64 n, E], U] w fun e w' => e = .returned (.slice none 0 0) ∧ Below w.heap.size w w' := by
  have HB0 := Lib.hid ((Below.refl w.heap.size w).alloc (Nat.le_refl _) (.cells #[.int .i64 n, E] 24))
  go_enter Try.func20, Try.ntmps20
  go_wp2_with (go_at_call 34; refine (HE.out _ HB0.out).mono ?_; rintro e w1 ⟨rfl, hB⟩; have HB1 := Lib.hid (on_trans HB0.out hB); clear hB HE)
  go_ret
  exact ⟨rfl, HB1.out⟩
set_option maxHeartbeats 4000000 in
theorem roff8_some (n : Int) (es : List Ed) (a : Option Addr) (m c : Nat) (hm : es.length = m) (hm0 : m ≤ 100000) (l : List Int) (al : Option Addr) (ml cl : Nat) (hl : l.length = ml) (hl1 : ml ≤ 10000) (hok : okL m l = true) (w : World)
    (HC : Hid (0 < m → ∃ b off, a = some ⟨b, off, none⟩ ∧ ∀ (j : Nat) e, es[j]? = some e → w.cell? ⟨b, off + j * 3, none⟩ = some (.int .i64 e.f) ∧ w.cell? ⟨b, off + j * 3 + 1, none⟩ = some (.int .i64 e.t) ∧ w.cell? ⟨b, off + j * 3 + 2, none⟩ = some (.int .u64 (e.w : Int))))
    (HL : Hid (Ints l al ml w))
    (HE : Hid (∀ W, Below w.heap.size w W → Calls Try.prog 34 #[.agg #[.int .i64 n, .slice a m c], .slice al ml cl] W fun e w' => e = .returned (.bool true) ∧ Below W.heap.size W w')) :
    Calls Try.prog 20 #[.agg #[.int .i64 n, .slice a m c], .slice al ml cl] w fun e w' => ∃ v, e = .returned v ∧ NatsAt w' v (offK es l ml) ∧ Below w.heap.size w w' := by
  have HB0 := Lib.hid ((Below.refl w.heap.size w).alloc (Nat.le_refl _) (.cells #[.int .i64 n, .slice a m c] 24))
  have HOk := Lib.hid (fun x (hx : x ∈ l) => okL_at hok hx)
  have hl2 : (ml : Int) ≤ 10000 := by omega
  have hm1 : (m : Int) ≤ 100000 := by omega
  obtain ⟨i0, hi, hz0, hz1, hz2⟩ := info_parts infoU64
  clear hok
  go_enter Try.func20, Try.ntmps20
  go_wp2_with (go_at_call 34; refine (HE.out _ HB0.out).mono ?_; rintro e w1 ⟨rfl, hB⟩; have b1 := cell_on hB (p := ⟨w.heap.size, 1, none⟩) (v := .slice a m c) (by simp); have HB1 := Lib.hid (on_trans HB0.out hB); clear hB HE)
  have hPw : w.heap.size < w1.heap.size := World.block_lt_of_cell? w1 _ b1
  have HO0 : Hid ((w1.alloc (.cells #[.int .u64 0] 30)).ownsRow w1.heap.size 30 1 (.slice (some ⟨w1.heap.size, 0, none⟩) 1 1) (0 + 1) (wordV (offK es l 0))) := Lib.hid (by rw [show offK es l 0 = [0] from rfl]; exact owns_fullI w1 [.int .u64 0] w1.heap.size 1 30 (Nat.le_refl _) rfl (by unfold maxLen; omega))
  have HBa : Hid (Below w1.heap.size w1 (w1.alloc (.cells #[.int .u64 0] 30))) := Lib.hid ((Below.refl _ _).alloc (Nat.le_refl _) _)
  go_loopw [5, 6] (fun v i wr => ∃ (k : Nat), k ≤ ml ∧ i = .int .i64 k ∧ Hid (wr.ownsRow w1.heap.size 30 1 v (k + 1) (wordV (offK es l k))) ∧ Hid (Below w1.heap.size w1 wr)) (fun _ i _ => ml - (RowKit.intOf i).toNat)
  case atStart => exact ⟨0, by omega, rfl, HO0, HBa⟩
  case round =>
    obtain ⟨k, hk, rfl, HO, HB⟩ := hrel
    obtain ⟨gg, cap, rfl, hg1, hg2⟩ := HO.out.form (by omega)
    by_cases hkm : k < ml
    · obtain ⟨bl, ol, rfl, hcl⟩ := HL.out (by omega)
      have hx0 : l[k]? = some (l[k]'(by omega)) := List.getElem?_eq_getElem (by omega)
      obtain ⟨xk, hxk⟩ : ∃ xk, l[k]'(by omega) = xk := ⟨_, rfl⟩
      rw [hxk] at hx0
      obtain ⟨z0, z1⟩ := HOk.out xk (List.mem_of_getElem? hx0)
      obtain ⟨X, rfl⟩ : ∃ X : Nat, xk = X := ⟨xk.toNat, by omega⟩
      obtain ⟨b, off, rfl, hc⟩ := HC.out (by omega)
      have he0 : es[X]? = some (es[X]'(by omega)) := List.getElem?_eq_getElem (by omega)
      obtain ⟨⟨f, t, x⟩, he⟩ : ∃ e, es[X]'(by omega) = e := ⟨_, rfl⟩
      rw [he] at he0
      have e3 := (hc X _ he0).2.2
      simp only at e3
      have e3' := cell_on HB1.out e3
      have e4' := cell_on HB1.out (hcl k _ hx0)
      have e3 := cell_on HB.out e3'
      have e4 := cell_on HB.out e4'
      have g1 := cell_on HB.out b1
      have e5 : wr.cell? ⟨gg, k, none⟩ = some (.int .u64 (sumL es (l.take k) % 18446744073709551616 : Nat)) := by
        rw [HO.out.cellAt k (by simp [wordV, offK_len])]
        simp only [wordV, List.getElem?_map, offK_at, Option.map_some]
      obtain ⟨S, hS⟩ : ∃ S, sumL es (l.take k) % 18446744073709551616 = S := ⟨_, rfl⟩
      have HN := sumL_take es hx0 he0
      have HS : Hid (offK es l (k + 1) = offK es l k ++ [(S + x) % 18446744073709551616]) := Lib.hid (by rw [offK_succ, HN, ← hS]; simp only; congr 2; omega)
      rw [hS] at e5
      have hw2 := guw_add S x
      obtain ⟨S2, hS2⟩ : ∃ S2, (S + x) % 18446744073709551616 = S2 := ⟨_, rfl⟩
      rw [hS2] at HS hw2
      have hi0 : (0 : Int) ≤ (k : Int) := Int.natCast_nonneg _
      have hi1 : (k : Int) < (ml : Int) := by omega
      have hi3 : (k : Int) < (k : Int) + 1 := by omega
      have hPw' : w.heap.size < wr.heap.size := Nat.lt_of_lt_of_le hPw HB.out.size
      have hbw : b < wr.heap.size := World.block_lt_of_cell? wr _ e3
      have hblw : bl < wr.heap.size := World.block_lt_of_cell? wr _ e4
      have hggw : gg < wr.heap.size := World.block_lt_of_cell? wr _ e5
      clear hS hS2 HN hxk hx0 he he0 hc hcl HC HL HOk b1 HO0 HBa
      have hPb : b < w1.heap.size := World.block_lt_of_cell? w1 _ e3'
      have hPbl : bl < w1.heap.size := World.block_lt_of_cell? w1 _ e4'
      have hba := (Below.refl wr.heap.size wr).alloc (Nat.le_refl _) (.cells #[.int .u64 (S2 : Int)] 30)
      have D1 := Lib.hid (cell_on hba.drew g1)
      have D2 := Lib.hid (cell_on hba.drew e4)
      have D3 := Lib.hid (cell_on hba.drew e3)
      have HBd := Lib.hid (HB.out.trans (hba.drew.mono HB.out.size))
      have HOd := Lib.hid ((HO.out.alloc (.cells #[.int .u64 (S2 : Int)] 30)).drew)
      have hsz := HB.out.size
      clear hba
      go_wp2
      refine wp_region_held_drew (S := fun w' => w'.cell? ⟨w.heap.size, 1, none⟩ = some (.slice (some ⟨b, off, none⟩) m c) ∧ w'.cell? ⟨bl, ol + k, none⟩ = some (.int .i64 (X : Int)) ∧ w'.cell? ⟨b, off + X * 3 + 2, none⟩ = some (.int .u64 (x : Int))) (by kernel_rfl) ⟨g1, e4, e3⟩ (fun hHeld => ?_)
      refine wpAnyH_take (i := 0) (v := .slice (some ⟨gg, 0, none⟩) (k + 1) cap) rfl (by kernel_rfl) (by kernel_rfl) (by kernel_rfl) (fun _ _ _ h => h) (Or.inl ⟨by kernel_rfl, fun w' hS => by obtain ⟨s0, s1, s2⟩ := hS; go_simp⟩) hHeld ?_
      simp only [Act.put, List.setIfInBounds_toArray, List.set_cons_zero, List.set_cons_succ]
      refine wpAnyH_take (i := 1) (v := .slice (some ⟨gg, 0, none⟩) (k + 1) cap) rfl (by kernel_rfl) (by kernel_rfl) (by kernel_rfl) (fun _ _ _ h => h) (Or.inl ⟨by kernel_rfl, fun w' hS => by obtain ⟨s0, s1, s2⟩ := hS; go_simp⟩) hHeld ?_
      simp only [Act.put, List.setIfInBounds_toArray, List.set_cons_zero, List.set_cons_succ]
      refine wpAnyH_take (i := 2) (v := .int .i64 (k : Int)) rfl (by kernel_rfl) (by kernel_rfl) (by kernel_rfl) (fun _ _ _ h => h) (Or.inl ⟨by kernel_rfl, fun w' hS => by obtain ⟨s0, s1, s2⟩ := hS; go_simp⟩) hHeld ?_
      simp only [Act.put, List.setIfInBounds_toArray, List.set_cons_zero, List.set_cons_succ]
      refine wpAnyH_take (i := 3) (v := .pointer (some ⟨gg, k, none⟩)) rfl (by kernel_rfl) (by kernel_rfl) (by kernel_rfl) (fun _ _ _ h => h) (Or.inl ⟨by kernel_rfl, fun w' hS => by obtain ⟨s0, s1, s2⟩ := hS; go_simp⟩) hHeld ?_
      simp only [Act.put, List.setIfInBounds_toArray, List.set_cons_zero, List.set_cons_succ]
      refine wpAnyH_take (i := 5) (v := .pointer (some ⟨w.heap.size, 1, none⟩)) rfl (by kernel_rfl) (by kernel_rfl) (by kernel_rfl) (fun _ _ _ h => h) (Or.inl ⟨by kernel_rfl, fun w' hS => by obtain ⟨s0, s1, s2⟩ := hS; go_simp⟩) hHeld ?_
      simp only [Act.put, List.setIfInBounds_toArray, List.set_cons_zero, List.set_cons_succ]
      refine wpAnyH_take (i := 6) (v := .slice (some ⟨b, off, none⟩) m c) rfl (by kernel_rfl) (by kernel_rfl) (by kernel_rfl) (fun _ _ _ h => h) (Or.inl ⟨by kernel_rfl, fun w' hS => by obtain ⟨s0, s1, s2⟩ := hS; go_simp⟩) hHeld ?_
      simp only [Act.put, List.setIfInBounds_toArray, List.set_cons_zero, List.set_cons_succ]
      refine wpAnyH_take (i := 7) (v := .slice (some ⟨bl, ol, none⟩) ml cl) rfl (by kernel_rfl) (by kernel_rfl) (by kernel_rfl) (fun _ _ _ h => h) (Or.inl ⟨by kernel_rfl, fun w' hS => by obtain ⟨s0, s1, s2⟩ := hS; go_simp⟩) hHeld ?_
      simp only [Act.put, List.setIfInBounds_toArray, List.set_cons_zero, List.set_cons_succ]
      refine wpAnyH_take (i := 8) (v := .int .i64 (k : Int)) rfl (by kernel_rfl) (by kernel_rfl) (by kernel_rfl) (fun _ _ _ h => h) (Or.inl ⟨by kernel_rfl, fun w' hS => by obtain ⟨s0, s1, s2⟩ := hS; go_simp⟩) hHeld ?_
      simp only [Act.put, List.setIfInBounds_toArray, List.set_cons_zero, List.set_cons_succ]
      refine wpAnyH_take (i := 9) (v := .pointer (some ⟨bl, ol + k, none⟩)) rfl (by kernel_rfl) (by kernel_rfl) (by kernel_rfl) (fun _ _ _ h => h) (Or.inl ⟨by kernel_rfl, fun w' hS => by obtain ⟨s0, s1, s2⟩ := hS; go_simp⟩) hHeld ?_
      simp only [Act.put, List.setIfInBounds_toArray, List.set_cons_zero, List.set_cons_succ]
      refine wpAnyH_take (i := 10) (v := .int .i64 (X : Int)) rfl (by kernel_rfl) (by kernel_rfl) (by kernel_rfl) (fun _ _ _ h => h) (Or.inl ⟨by kernel_rfl, fun w' hS => by obtain ⟨s0, s1, s2⟩ := hS; go_simp⟩) hHeld ?_
      simp only [Act.put, List.setIfInBounds_toArray, List.set_cons_zero, List.set_cons_succ]
      refine wpAnyH_take (i := 11) (v := .pointer (some ⟨b, off + X * 3, none⟩)) rfl (by kernel_rfl) (by kernel_rfl) (by kernel_rfl) (fun _ _ _ h => h) (Or.inl ⟨by kernel_rfl, fun w' hS => by obtain ⟨s0, s1, s2⟩ := hS; go_simp⟩) hHeld ?_
      simp only [Act.put, List.setIfInBounds_toArray, List.set_cons_zero, List.set_cons_succ]
      refine wpAnyH_take (i := 12) (v := .pointer (some ⟨b, off + X * 3 + 2, none⟩)) rfl (by kernel_rfl) (by kernel_rfl) (by kernel_rfl) (fun _ _ _ h => h) (Or.inl ⟨by kernel_rfl, fun w' hS => by obtain ⟨s0, s1, s2⟩ := hS; go_simp⟩) hHeld ?_
      simp only [Act.put, List.setIfInBounds_toArray, List.set_cons_zero, List.set_cons_succ]
      refine wpAnyH_take (i := 13) (v := .int .u64 (x : Int)) rfl (by kernel_rfl) (by kernel_rfl) (by kernel_rfl) (fun _ _ _ h => h) (Or.inl ⟨by kernel_rfl, fun w' hS => by obtain ⟨s0, s1, s2⟩ := hS; go_simp⟩) hHeld ?_
      simp only [Act.put, List.setIfInBounds_toArray, List.set_cons_zero, List.set_cons_succ]
      refine wpAnyH_ready (rs := [4]) (by kernel_rfl) (by simp) ?_
      refine AllReadyH.cons rfl (fun K hK => ?_) AllReadyH.nil
      go_simp
      refine hK.out _ _ ⟨g1, e4, e3⟩ (fun hHeld => ?_)
      clear hK K
      try simp only [Act.put, List.setIfInBounds_toArray, List.set_cons_zero, List.set_cons_succ]
      refine wpAnyH_ready (rs := [14]) (by kernel_rfl) (by simp) ?_
      refine AllReadyH.cons rfl (fun K hK => ?_) AllReadyH.nil
      go_simp
      refine hK.out _ _ ⟨g1, e4, e3⟩ (fun hHeld => ?_)
      clear hK K
      try simp only [Act.put, List.setIfInBounds_toArray, List.set_cons_zero, List.set_cons_succ]
      refine wpAnyH_ready (rs := [15]) (by kernel_rfl) (by simp) ?_
      refine AllReadyH.cons rfl (fun K hK => ?_) AllReadyH.nil
      go_simp
      refine hK.out _ _ ⟨D1.out, D2.out, D3.out⟩ (fun hHeld => ?_)
      clear hK K
      try simp only [Act.put, List.setIfInBounds_toArray, List.set_cons_zero, List.set_cons_succ]
      refine wpAnyH_ready (rs := [16]) (by kernel_rfl) (by simp) ?_
      refine AllReadyH.cons rfl (fun K hK => ?_) AllReadyH.nil
      refine step_append_lies _ (by rfl) _ _ _ (by rfl) w1.heap.size 30 i0 _ 1 8 Try.underlying37 hi hz0 hz1 hz2 rfl (by omega) _ (k + 1) _ (by rfl) HOd.out ⟨wr.heap.size, 0, none⟩ 1 1 [.int .u64 (S2 : Int)] (by rfl) (by rfl) (World.news_of_block (cs := #[.int .u64 (S2 : Int)]) (t := 30) (fr := (0, 0)) (heap_alloc_new wr _)) (by simp [Value.oneCell']) (by omega) (by unfold maxLen; omega) (by omega) (by simp; omega) (wr.heap.size + 1) (by simp) ?_
      intro gg2 cap2 w5 hown hgrow hat hlt
      refine hK.out _ _ ⟨grow_cell HOd.out hgrow (show w.heap.size < w1.heap.size by omega) D1.out, grow_cell HOd.out hgrow (show bl < w1.heap.size by omega) D2.out, grow_cell HOd.out hgrow (show b < w1.heap.size by omega) D3.out⟩ (fun hHeld => ?_)
      clear hK K
      try simp only [Act.put, List.setIfInBounds_toArray, List.set_cons_zero, List.set_cons_succ]
      refine wpAnyH_ready (rs := [17]) (by kernel_rfl) (by simp) ?_
      refine AllReadyH.cons rfl (fun K hK => ?_) AllReadyH.nil
      go_simp
      refine hK.out _ _ hHeld (fun hHeld => ?_)
      clear hK K
      try simp only [Act.put, List.setIfInBounds_toArray, List.set_cons_zero, List.set_cons_succ]
      refine wpAnyH_done (by kernel_rfl) ?_ _
      have HO5 : Hid (w5.ownsRow w1.heap.size 30 1 (.slice (some ⟨gg2, 0, none⟩) (k + 1 + 1) cap2) (k + 1 + 1) (wordV (offK es l (k + 1)))) := Lib.hid (by rw [HS.out, wordV_snoc]; exact hown)
      have HB5 := Lib.hid (below_growE HBd.out (Nat.le_refl _) (by simp; omega) HOd.out hgrow)
      clear hown hgrow hat hlt HO HB HBd HOd D1 D2 D3 e3 e4 e5 g1 e3' e4' hHeld
      go_wp2
      go_roundw
      case rel => exact ⟨k + 1, by omega, by go_num, HO5, HB5⟩
      case measure => simp [RowKit.intOf] <;> omega
    · obtain rfl : k = ml := by omega
      have HS : Hid (NatsAt wr (.slice (some ⟨gg, 0, none⟩) (k + 1) cap) (offK es l k)) := Lib.hid (nats_own8 (by rw [offK_len]; exact HO.out))
      have HZ := Lib.hid (HB1.out.trans (HB.out.mono HB1.out.size))
      go_wp2
      go_ret
      exact ⟨_, rfl, HS.out, HZ.out⟩
theorem roff8_any (n : Int) {v u : Value} {es : List Ed} {l : List Int} (hl : l.length ≤ 10000) (he : es.length ≤ 100000) (w : World) (h : EdgesAt w v es) (hi : IntsAt w u l) :
    Calls Try.prog 20 #[.agg #[.int .i64 n, v], u] w fun e w' => ∃ v', e = .returned v' ∧ NatsAt w' v' (offF n es l) ∧ Below w.heap.size w w' := by
  have HE := Lib.hid (fun W (hB : Below w.heap.size w W) => redges8_any n (by omega) he W (h.on hB) (hi.on hB))
  obtain ⟨a, c, rfl, g⟩ := edgesAt_flat h
  obtain ⟨al, cl, rfl, _, k⟩ := hi
  unfold offF
  cases hF : edF n es l
  · rw [if_neg (by simp)]
    rw [hF] at HE
    exact (roff8_no n _ _ w HE).mono fun e w' ⟨e1, e2⟩ => ⟨_, e1, nats_nil _, e2⟩
  · rw [if_pos rfl]
    rw [hF] at HE
    exact roff8_some n es a es.length c rfl he l al l.length cl rfl hl (edF_ok hF).2 w (Lib.hid g) (Lib.hid k) HE
end Go.Proofs.Ytifljelphniipaa
