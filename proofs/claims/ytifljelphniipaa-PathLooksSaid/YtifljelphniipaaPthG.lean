import Derived.Test.YtifljelphniipaaPthF
set_option linter.unusedVariables false
set_option linter.unusedSimpArgs false
namespace Go.Proofs.Ytifljelphniipaa
open Go.RowKit
attribute [local go_sem ↓] Go.wp_at_zero Go.wp_at_succ
/-- What both share, behind k of the first's edges: each once. -/
def shareK (es : List Ed) (a b : List Int) : Nat → Nat
  | 0 => 0
  | k + 1 => shareK es a b k + match a[k]? with | none => 0 | some x => if hasB b x = true ∧ hasB (a.take k) x = false then wtE es x else 0
theorem shareK_no {es : List Ed} {a b : List Int} {k : Nat} {x : Int} (hx : a[k]? = some x) (h : hasB b x = false ∨ hasB (a.take k) x = true) : shareK es a b (k + 1) = shareK es a b k := by
  unfold shareK
  rw [hx]
  simp only
  rw [if_neg (by rintro ⟨h1, h2⟩; rcases h with h | h <;> simp_all)]
  cases k <;> rfl
theorem shareK_yes {es : List Ed} {a b : List Int} {k X : Nat} {e : Ed} (hx : a[k]? = some (X : Int)) (he : es[X]? = some e) (h1 : hasB b (X : Int) = true) (h2 : hasB (a.take k) (X : Int) = false) : shareK es a b (k + 1) = shareK es a b k + e.w := by
  have h3 : shareK es a b (k + 1) = shareK es a b k + wtE es (X : Int) := by
    conv => lhs; unfold shareK
    rw [hx]
    simp only
    rw [if_pos ⟨h1, h2⟩]
  rw [h3]
  simp [wtE, he]
def sharedF (n : Int) (es : List Ed) (a b : List Int) : Nat := if edF n es a = true ∧ edF n es b = true then shareK es a b a.length % 18446744073709551616 else 0
set_option maxHeartbeats 1000000 in
theorem rshared8_no (n : Int) (E U V : Value) (F G : Bool) (hF : F = false ∨ G = false) (w : World)
    (HE : Hid (∀ W, Below w.heap.size w W → Calls Try.prog 34 #[.agg #[.int .i64 n, E], U] W fun e w' => e = .returned (.bool F) ∧ Below W.heap.size W w'))
    (HG : Hid (∀ W, Below w.heap.size w W → Calls Try.prog 34 #[.agg #[.int .i64 n, E], V] W fun e w' => e = .returned (.bool G) ∧ Below W.heap.size W w')) :
    Calls Try.prog 28 #[.agg #[.int .i64 n, E], U, V] w fun e w' => e = .returned (.int .u64 0) ∧ Below w.heap.size w w' := by
  have HB0 := Lib.hid ((Below.refl w.heap.size w).alloc (Nat.le_refl _) (.cells #[.int .i64 n, E] 24))
  cases F
  · clear hF HG
    go_enter Try.func28, Try.ntmps28
    go_wp2_with (go_at_call 34; refine (HE.out _ HB0.out).mono ?_; rintro e w1 ⟨rfl, hB⟩; have HB1 := Lib.hid (on_trans HB0.out hB); clear hB HE)
    go_ret
    exact ⟨rfl, HB1.out⟩
  · obtain rfl : G = false := by simpa using hF
    clear hF
    go_enter Try.func28, Try.ntmps28
    go_wp2_with (go_at_call_of 34 (#[.agg #[.int .i64 n, E], U]))
    refine (HE.out _ HB0.out).mono ?_
    rintro e w1 ⟨rfl, hB⟩
    have b0 := cell_on hB (p := ⟨w.heap.size, 0, none⟩) (v := .int .i64 n) (by simp)
    have b1 := cell_on hB (p := ⟨w.heap.size, 1, none⟩) (v := E) (by simp)
    have HB1 := Lib.hid (on_trans HB0.out hB)
    clear hB HE
    go_wp2_with (go_at_call 34; refine (HG.out _ HB1.out).mono ?_; rintro e w2 ⟨rfl, hB⟩; have HB2 := Lib.hid (on_trans HB1.out hB); clear hB HG)
    go_ret
    exact ⟨rfl, HB2.out⟩
set_option maxHeartbeats 4000000 in
theorem rshared8_some (n : Int) (es : List Ed) (a : Option Addr) (m c : Nat) (hm : es.length = m) (hm0 : m ≤ 100000) (l r : List Int) (al ar : Option Addr) (ml cl mr cr : Nat) (hl : l.length = ml) (hr : r.length = mr) (hl1 : ml ≤ 100000) (hr1 : mr ≤ 100000) (hlc : ml ≤ cl) (hok : okL m l = true) (w : World)
    (HC : Hid (0 < m → ∃ b off, a = some ⟨b, off, none⟩ ∧ ∀ (j : Nat) e, es[j]? = some e → w.cell? ⟨b, off + j * 3, none⟩ = some (.int .i64 e.f) ∧ w.cell? ⟨b, off + j * 3 + 1, none⟩ = some (.int .i64 e.t) ∧ w.cell? ⟨b, off + j * 3 + 2, none⟩ = some (.int .u64 (e.w : Int))))
    (HL : Hid (Ints l al ml w)) (HR : Hid (Ints r ar mr w))
    (HE : Hid (∀ W, Below w.heap.size w W → Calls Try.prog 34 #[.agg #[.int .i64 n, .slice a m c], .slice al ml cl] W fun e w' => e = .returned (.bool true) ∧ Below W.heap.size W w'))
    (HG : Hid (∀ W, Below w.heap.size w W → Calls Try.prog 34 #[.agg #[.int .i64 n, .slice a m c], .slice ar mr cr] W fun e w' => e = .returned (.bool true) ∧ Below W.heap.size W w')) :
    Calls Try.prog 28 #[.agg #[.int .i64 n, .slice a m c], .slice al ml cl, .slice ar mr cr] w fun e w' => e = .returned (.int .u64 (shareK es l r ml % 18446744073709551616 : Nat)) ∧ Below w.heap.size w w' := by
  have HB0 := Lib.hid ((Below.refl w.heap.size w).alloc (Nat.le_refl _) (.cells #[.int .i64 n, .slice a m c] 24))
  have HOk := Lib.hid (fun x (hx : x ∈ l) => okL_at hok hx)
  have hl2 : (ml : Int) ≤ 100000 := by omega
  have hm1 : (m : Int) ≤ 100000 := by omega
  have hlc2 : (ml : Int) ≤ (cl : Int) := by omega
  clear hok
  go_enter Try.func28, Try.ntmps28
  go_wp2_with (go_at_call_of 34 (#[.agg #[.int .i64 n, .slice a m c], .slice al ml cl]))
  refine (HE.out _ HB0.out).mono ?_
  rintro e w1 ⟨rfl, hB⟩
  have b0 := cell_on hB (p := ⟨w.heap.size, 0, none⟩) (v := .int .i64 n) (by simp)
  have b1 := cell_on hB (p := ⟨w.heap.size, 1, none⟩) (v := .slice a m c) (by simp)
  have HB1 := Lib.hid (on_trans HB0.out hB)
  clear hB HE
  go_wp2_with (go_at_call 34; refine (HG.out _ HB1.out).mono ?_; rintro e w2 ⟨rfl, hB⟩; have b2 := cell_on hB b1; have HB2 := Lib.hid (on_trans HB1.out hB); clear hB HG)
  clear b0 b1 HB0 HB1
  have HBr := Lib.hid (Below.refl w2.heap.size w2)
  go_loopw [7, 8] (fun s i wr => ∃ (k S : Nat), k ≤ ml ∧ i = .int .i64 k ∧ s = .int .u64 (S : Nat) ∧ S < 18446744073709551616 ∧ Hid (S = shareK es l r k % 18446744073709551616) ∧ Hid (Below w2.heap.size w2 wr)) (fun _ i _ => ml - (RowKit.intOf i).toNat)
  case atStart => exact ⟨0, 0, by omega, rfl, rfl, by omega, Lib.hid rfl, HBr⟩
  case round =>
    obtain ⟨k, S, hk, rfl, rfl, hS, HS, HB⟩ := hrel
    by_cases hkm : k < ml
    · obtain ⟨bl, ol, rfl, hcl⟩ := HL.out (by omega)
      have hx0 : l[k]? = some (l[k]'(by omega)) := List.getElem?_eq_getElem (by omega)
      obtain ⟨xk, hxk⟩ : ∃ xk, l[k]'(by omega) = xk := ⟨_, rfl⟩
      rw [hxk] at hx0
      obtain ⟨z0, z1⟩ := HOk.out xk (List.mem_of_getElem? hx0)
      have e4 := cell_on HB.out (cell_on HB2.out (hcl k _ hx0))
      have hi0 : (0 : Int) ≤ (k : Int) := Int.natCast_nonneg _
      have hi1 : (k : Int) < (ml : Int) := by omega
      have hi2 : (k : Int) ≤ (cl : Int) := by omega
      have HBw := Lib.hid (on_trans HB2.out HB.out)
      have HH := Lib.hid (fun W (hb : Below wr.heap.size wr W) => has_some r ar mr cr xk hr (by omega) W (Lib.hid ((HR.out.on HBw.out).on hb)))
      cases hA : hasB r xk
      · rw [hA] at HH
        have HN : Hid (S = shareK es l r (k + 1) % 18446744073709551616) := Lib.hid (by rw [shareK_no hx0 (.inl hA)]; exact HS.out)
        clear hxk hx0 hA HS HC HL HR HOk b2
        go_wp2
        refine wp_region_held_drew (S := fun w' => w'.cell? ⟨bl, ol + k, none⟩ = some (.int .i64 xk)) (by kernel_rfl) ?_ (fun hHeld => ?_)
        · exact e4
        refine wpAnyH_take (i := 0) (oi := { dst := some 25, op := Op.move (Operand.tmp 2), type := 25, pos := "ref.go:118", after := #[], guard := none }) (v := ?_) rfl (by kernel_rfl) (by kernel_rfl) (by kernel_rfl) (fun _ _ _ h => h) (Or.inl ⟨by rfl, ?_⟩) (by assumption) ?_
        rotate_left 1
        · intro w hSw
          try dsimp only at hSw
          go_simp
          try with_reducible rfl
        try simp only [Act.put, List.setIfInBounds_toArray, List.set_cons_zero, List.set_cons_succ]
        refine wpAnyH_take (i := 1) (oi := { dst := some 26, op := Op.move (Operand.tmp 1), type := 25, pos := "ref.go:118", after := #[], guard := none }) (v := ?_) rfl (by kernel_rfl) (by kernel_rfl) (by kernel_rfl) (fun _ _ _ h => h) (Or.inl ⟨by rfl, ?_⟩) (by assumption) ?_
        rotate_left 1
        · intro w hSw
          try dsimp only at hSw
          go_simp
          try with_reducible rfl
        try simp only [Act.put, List.setIfInBounds_toArray, List.set_cons_zero, List.set_cons_succ]
        refine wpAnyH_take (i := 2) (oi := { dst := some 27, op := Op.move (Operand.tmp 8), type := 3, pos := "ref.go:118", after := #[], guard := none }) (v := ?_) rfl (by kernel_rfl) (by kernel_rfl) (by kernel_rfl) (fun _ _ _ h => h) (Or.inl ⟨by rfl, ?_⟩) (by assumption) ?_
        rotate_left 1
        · intro w hSw
          try dsimp only at hSw
          go_simp
          try with_reducible rfl
        try simp only [Act.put, List.setIfInBounds_toArray, List.set_cons_zero, List.set_cons_succ]
        refine wpAnyH_take (i := 3) (oi := { dst := some 28, op := Op.indexAddr 25 (Operand.tmp 26) (Operand.tmp 27), type := 0, pos := "ref.go:118", after := #[{ on := 1, ground := Ground.data }, { on := 2, ground := Ground.data }], guard := none }) (v := ?_) rfl (by kernel_rfl) (by kernel_rfl) (by kernel_rfl) (fun _ _ _ h => h) (Or.inl ⟨by rfl, ?_⟩) (by assumption) ?_
        rotate_left 1
        · intro w hSw
          try dsimp only at hSw
          go_simp
          try with_reducible rfl
        try simp only [Act.put, List.setIfInBounds_toArray, List.set_cons_zero, List.set_cons_succ]
        refine wpAnyH_take (i := 4) (oi := { dst := some 29, op := Op.load 3 (Operand.tmp 28), type := 3, pos := "ref.go:118", after := #[{ on := 3, ground := Ground.data }], guard := none }) (v := ?_) rfl (by kernel_rfl) (by kernel_rfl) (by kernel_rfl) (fun _ _ _ h => h) (Or.inl ⟨by rfl, ?_⟩) (by assumption) ?_
        rotate_left 1
        · intro w hSw
          try dsimp only at hSw
          go_simp
          try with_reducible rfl
        try simp only [Act.put, List.setIfInBounds_toArray, List.set_cons_zero, List.set_cons_succ]
        refine wpAnyH_ready (rs := [5]) (by kernel_rfl) (by simp) ?_
        refine AllReadyH.cons rfl (fun K hK => ?_) AllReadyH.nil
        go_simp
        refine (HH.out _ (by exact (Below.refl _ _).drew)).mono ?_
        rintro e w3 ⟨rfl, hw3⟩
        obtain rfl := hw3.symm
        refine hK.out _ _ e4 (fun hHeld => ?_)
        clear hK K
        try simp only [Act.put, List.setIfInBounds_toArray, List.set_cons_zero, List.set_cons_succ]
        refine wpAnyH_ready (rs := [6]) (by kernel_rfl) (by simp) ?_
        refine AllReadyH.cons rfl (fun K hK => ?_) AllReadyH.nil
        go_simp
        refine hK.out _ _ e4 (fun hHeld => ?_)
        clear hK K
        try simp only [Act.put, List.setIfInBounds_toArray, List.set_cons_zero, List.set_cons_succ]
        refine wpAnyH_take (i := 7) (v := undef) rfl (by kernel_rfl) (by kernel_rfl) (by kernel_rfl) (fun _ _ _ h => h) (Or.inr ⟨by kernel_rfl, rfl⟩) (by assumption) ?_
        try simp only [Act.put, List.setIfInBounds_toArray, List.set_cons_zero, List.set_cons_succ]
        refine wpAnyH_take (i := 8) (v := undef) rfl (by kernel_rfl) (by kernel_rfl) (by kernel_rfl) (fun _ _ _ h => h) (Or.inr ⟨by kernel_rfl, rfl⟩) (by assumption) ?_
        try simp only [Act.put, List.setIfInBounds_toArray, List.set_cons_zero, List.set_cons_succ]
        refine wpAnyH_take (i := 9) (v := undef) rfl (by kernel_rfl) (by kernel_rfl) (by kernel_rfl) (fun _ _ _ h => h) (Or.inr ⟨by kernel_rfl, rfl⟩) (by assumption) ?_
        try simp only [Act.put, List.setIfInBounds_toArray, List.set_cons_zero, List.set_cons_succ]
        refine wpAnyH_take (i := 10) (v := undef) rfl (by kernel_rfl) (by kernel_rfl) (by kernel_rfl) (fun _ _ _ h => h) (Or.inr ⟨by kernel_rfl, rfl⟩) (by assumption) ?_
        try simp only [Act.put, List.setIfInBounds_toArray, List.set_cons_zero, List.set_cons_succ]
        refine wpAnyH_take (i := 11) (v := undef) rfl (by kernel_rfl) (by kernel_rfl) (by kernel_rfl) (fun _ _ _ h => h) (Or.inr ⟨by kernel_rfl, rfl⟩) (by assumption) ?_
        try simp only [Act.put, List.setIfInBounds_toArray, List.set_cons_zero, List.set_cons_succ]
        refine wpAnyH_take (i := 12) (v := undef) rfl (by kernel_rfl) (by kernel_rfl) (by kernel_rfl) (fun _ _ _ h => h) (Or.inr ⟨by kernel_rfl, rfl⟩) (by assumption) ?_
        try simp only [Act.put, List.setIfInBounds_toArray, List.set_cons_zero, List.set_cons_succ]
        refine wpAnyH_take (i := 13) (v := undef) rfl (by kernel_rfl) (by kernel_rfl) (by kernel_rfl) (fun _ _ _ h => h) (Or.inr ⟨by kernel_rfl, rfl⟩) (by assumption) ?_
        try simp only [Act.put, List.setIfInBounds_toArray, List.set_cons_zero, List.set_cons_succ]
        refine wpAnyH_take (i := 14) (v := undef) rfl (by kernel_rfl) (by kernel_rfl) (by kernel_rfl) (fun _ _ _ h => h) (Or.inr ⟨by kernel_rfl, rfl⟩) (by assumption) ?_
        try simp only [Act.put, List.setIfInBounds_toArray, List.set_cons_zero, List.set_cons_succ]
        refine wpAnyH_take (i := 15) (v := undef) rfl (by kernel_rfl) (by kernel_rfl) (by kernel_rfl) (fun _ _ _ h => h) (Or.inr ⟨by kernel_rfl, rfl⟩) (by assumption) ?_
        try simp only [Act.put, List.setIfInBounds_toArray, List.set_cons_zero, List.set_cons_succ]
        refine wpAnyH_ready (rs := [16]) (by kernel_rfl) (by simp) ?_
        refine AllReadyH.cons rfl (fun K hK => ?_) AllReadyH.nil
        go_simp
        refine hK.out _ _ e4 (fun hHeld => ?_)
        clear hK K
        try simp only [Act.put, List.setIfInBounds_toArray, List.set_cons_zero, List.set_cons_succ]
        refine wpAnyH_done (by kernel_rfl) ?_ _
        go_wp2
        go_roundw
        case rel => exact ⟨k + 1, S, by omega, by go_num, rfl, hS, HN, Lib.hid HB.out.drew⟩
        case measure => simp [RowKit.intOf] <;> omega
      · rw [hA] at HH
        have HT := Lib.hid (fun W (hb : Below wr.heap.size wr W) => has_some (l.take k) (some ⟨bl, ol, none⟩) k cl xk (by rw [List.length_take]; omega) (by omega) W (Lib.hid fun _ => ⟨bl, ol, rfl, fun j y hy => cell_on hb (cell_on HB.out (cell_on HB2.out (hcl j y (by rw [List.getElem?_take] at hy; split at hy; exact hy; cases hy))))⟩))
        cases hT : hasB (l.take k) xk
        · obtain ⟨X, rfl⟩ : ∃ X : Nat, xk = X := ⟨xk.toNat, by omega⟩
          obtain ⟨b, off, rfl, hc⟩ := HC.out (by omega)
          have he0 : es[X]? = some (es[X]'(by omega)) := List.getElem?_eq_getElem (by omega)
          obtain ⟨⟨f, t, x⟩, he⟩ : ∃ e, es[X]'(by omega) = e := ⟨_, rfl⟩
          rw [he] at he0
          have e3 := (hc X _ he0).2.2
          simp only at e3
          have e3 := cell_on HBw.out e3
          have g1 := cell_on HB.out b2
          have HN := Lib.hid (shareK_yes hx0 he0 hA hT)
          have HS2 := Lib.hid (show (S + x) % 18446744073709551616 = shareK es l r (k + 1) % 18446744073709551616 from by rw [HN.out, HS.out]; simp only; omega)
          have hz : (S + x) % 18446744073709551616 < 18446744073709551616 := Nat.mod_lt _ (by decide)
          have hw2 := guw_add S x
          obtain ⟨S2, hS2⟩ : ∃ S2, (S + x) % 18446744073709551616 = S2 := ⟨_, rfl⟩
          rw [hS2] at HS2 hz hw2
          rw [hT] at HT
          clear hS2 HN HS hxk hx0 he he0 hA hT hc hcl HC HL HR HOk b2
          go_wp2
          go_region_held3 (fun w' => w'.cell? ⟨bl, ol + k, none⟩ = some (.int .i64 (X : Int))) (first | exact e4) (first | (go_at_call_of 35 (Value.slice ar mr cr); refine (HH.out _ (by first | exact (Below.refl _ _).drew | exact Below.refl _ _)).mono ?_; rintro e w3 ⟨rfl, hw3⟩; obtain rfl := hw3.symm) | (go_at_call_of 35 (Value.slice (some ⟨bl, ol, none⟩) k cl); refine (HT.out _ (by first | exact (Below.refl _ _).drew | exact Below.refl _ _)).mono ?_; rintro e w3 ⟨rfl, hw3⟩; obtain rfl := hw3.symm))
          go_wp2
          go_region
          all_goals go_wp2
          all_goals go_roundw
          case rel => exact ⟨k + 1, S2, by omega, by go_num, rfl, hz, HS2, Lib.hid HB.out.drew.drew⟩
          case measure => simp [RowKit.intOf] <;> omega
        · have HN : Hid (S = shareK es l r (k + 1) % 18446744073709551616) := Lib.hid (by rw [shareK_no hx0 (.inr hT)]; exact HS.out)
          rw [hT] at HT
          clear hxk hx0 hA hT HS HC HL HR HOk b2 hcl
          go_wp2
          go_region_held3 (fun w' => w'.cell? ⟨bl, ol + k, none⟩ = some (.int .i64 xk)) (first | exact e4) (first | (go_at_call_of 35 (Value.slice ar mr cr); refine (HH.out _ (by first | exact (Below.refl _ _).drew | exact Below.refl _ _)).mono ?_; rintro e w3 ⟨rfl, hw3⟩; obtain rfl := hw3.symm) | (go_at_call_of 35 (Value.slice (some ⟨bl, ol, none⟩) k cl); refine (HT.out _ (by first | exact (Below.refl _ _).drew | exact Below.refl _ _)).mono ?_; rintro e w3 ⟨rfl, hw3⟩; obtain rfl := hw3.symm))
          go_wp2
          go_roundw
          case rel => exact ⟨k + 1, S, by omega, by go_num, rfl, hS, HN, Lib.hid HB.out.drew⟩
          case measure => simp [RowKit.intOf] <;> omega
    · obtain rfl : k = ml := by omega
      have HN : Hid (shareK es l r k % 18446744073709551616 = S) := Lib.hid HS.out.symm
      go_wp2
      go_ret
      exact ⟨by rw [HN.out]; rfl, HB2.out.trans (HB.out.mono HB2.out.size)⟩
theorem rshared8_any (n : Int) {v u z : Value} {es : List Ed} {l r : List Int} (hl : l.length ≤ 10000) (hr : r.length ≤ 10000) (he : es.length ≤ 100000) (w : World) (h : EdgesAt w v es) (hi : IntsAt w u l) (hj : IntsAt w z r) :
    Calls Try.prog 28 #[.agg #[.int .i64 n, v], u, z] w fun e w' => e = .returned (.int .u64 (sharedF n es l r : Nat)) ∧ Below w.heap.size w w' := by
  have HE := Lib.hid (fun W (hB : Below w.heap.size w W) => redges8_any n (l := l) (by omega) he W (h.on hB) (hi.on hB))
  have HG := Lib.hid (fun W (hB : Below w.heap.size w W) => redges8_any n (l := r) (by omega) he W (h.on hB) (hj.on hB))
  obtain ⟨a, c, rfl, g⟩ := edgesAt_flat h
  obtain ⟨al, cl, rfl, hcl, k⟩ := hi
  obtain ⟨ar, cr, rfl, _, k2⟩ := hj
  unfold sharedF
  by_cases h1 : edF n es l = true ∧ edF n es r = true
  · rw [if_pos h1]
    rw [h1.1] at HE
    rw [h1.2] at HG
    exact rshared8_some n es a es.length c rfl he l r al ar l.length cl r.length cr rfl rfl (by omega) (by omega) hcl (edF_ok h1.1).2 w (Lib.hid g) (Lib.hid k) (Lib.hid k2) HE HG
  · rw [if_neg h1]
    exact rshared8_no n _ _ _ _ _ (by cases hx : edF n es l <;> cases hy : edF n es r <;> simp_all) w HE HG
end Go.Proofs.Ytifljelphniipaa
