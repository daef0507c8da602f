import Derived.Test.YtifljelphniipaaPthZg
import Derived.Test.YtifljelphniipaaPthG
set_option linter.unusedVariables false
set_option linter.unusedSimpArgs false
namespace Go.Proofs.Ytifljelphniipaa
open Go.RowKit Go.Maps
attribute [local go_sem ↓] Go.wp_at_zero Go.wp_at_succ
abbrev OwnsW (w : World) (b n : Nat) (D : DataW Unit) : Prop := w.ownsMap Try.prog 3 (plainElem (H := Unit) Try.prog 30) b n D
theorem zeroU8 (w : World) : (zeroValue 30).run Try.prog w = .ok (.int .u64 0) w := by kernel_rfl
/-- What the map of weights holds: of those that are in, what each weighs. -/
def WMap (es : List Ed) (p : Int → Bool) (D : DataW Unit) : Prop := IsMap D ∧ ∀ x : Int, Maps.has D (.int .i64 x) = p x ∧ (p x = true → ∀ z, D.atKey (.int .i64 x) z = .lit (.int .u64 ((wtE es x : Nat) : Int)))
theorem WMap.congr {es : List Ed} {p q : Int → Bool} {D : DataW Unit} (h : WMap es p D) (e : ∀ x, p x = q x) : WMap es q D := by
  rwa [← show p = q from funext e]
theorem wmap_zero (es : List Ed) : WMap es (fun _ => false) (.map []) := ⟨⟨_, rfl⟩, fun x => ⟨by simp [Maps.has], fun h => by cases h⟩⟩
theorem WMap.put {es : List Ed} {p : Int → Bool} {D : DataW Unit} (h : WMap es p D) (x : Int) : WMap es (fun y => p y || decide (y = x)) (D.put (.int .i64 x) (.lit (.int .u64 ((wtE es x : Nat) : Int)))) := by
  have hkey : WideAt.IsKeyLit (Lit.int .i64 x) := trivial
  refine ⟨IsMap.put h.1 _ _, fun y => ?_⟩
  by_cases e : y = x
  · subst e
    exact ⟨by rw [has_put_same h.1 hkey]; simp, fun _ z => atKey_put_same h.1 hkey _ _⟩
  · have hne : Lit.int .i64 y ≠ Lit.int .i64 x := fun q => e (by injection q)
    refine ⟨by rw [has_put_other hne, (h.2 y).1]; simp [e], fun hp z => ?_⟩
    rw [atKey_put_other hne]
    exact (h.2 y).2 (by simpa [e] using hp) z
theorem WMap.del {es : List Ed} {p : Int → Bool} {D : DataW Unit} (h : WMap es p D) (x : Int) : WMap es (fun y => p y && !decide (y = x)) (D.del (.int .i64 x)) := by
  refine ⟨IsMap.del h.1 _, fun y => ?_⟩
  by_cases e : y = x
  · subst e
    exact ⟨by rw [has_del_same]; simp, fun hp => by simp at hp⟩
  · have hne : Lit.int .i64 y ≠ Lit.int .i64 x := fun q => e (by injection q)
    refine ⟨by rw [has_del_other hne, (h.2 y).1]; simp [e], fun hp z => ?_⟩
    rw [atKey_del_other hne]
    exact (h.2 y).2 (by simpa [e] using hp) z
theorem WMap.look {es : List Ed} {p : Int → Bool} {D : DataW Unit} (h : WMap es p D) (x : Int) : D.atKey (.int .i64 x) (.lit (.int .u64 0)) = .lit (.int .u64 ((if p x = true then wtE es x else 0 : Nat) : Int)) := by
  by_cases e : p x = true
  · rw [if_pos e]
    exact (h.2 x).2 e _
  · rw [if_neg e]
    exact atKey_of_not_has (by rw [(h.2 x).1]; simpa using e) _
theorem hasB_snoc {l : List Int} {k : Nat} {x : Int} (hx : l[k]? = some x) (y : Int) : hasB (l.take (k + 1)) y = (hasB (l.take k) y || decide (y = x)) := by
  rw [List.take_add_one, hx]
  unfold hasB
  rw [List.any_append]
  have : decide (x = y) = decide (y = x) := by simp [eq_comm]
  simp [this]
theorem shareK_step {es : List Ed} {a b : List Int} {k : Nat} {x : Int} (hx : a[k]? = some x) : shareK es a b (k + 1) = shareK es a b k + (if (hasB b x && !hasB (a.take k) x) = true then wtE es x else 0) := by
  conv => lhs; unfold shareK
  rw [hx]
  simp only [Bool.and_eq_true, Bool.not_eq_true']
/-- What both share, as a list without repeats: the same, whichever is gone through. -/
theorem shareK_mem (es : List Ed) (a b : List Int) : ∀ k, k ≤ a.length → ∃ d : List Int, shareK es a b k = sumL es d ∧ d.Nodup ∧ ∀ x, x ∈ d ↔ x ∈ a.take k ∧ x ∈ b
  | 0, _ => ⟨[], rfl, List.nodup_nil, by simp⟩
  | k + 1, hk => by
    obtain ⟨d, h1, h2, h3⟩ := shareK_mem es a b k (by omega)
    have hx : a[k]? = some (a[k]'(by omega)) := List.getElem?_eq_getElem (by omega)
    generalize a[k]'(by omega) = x at hx
    have hm : ∀ y, y ∈ a.take (k + 1) ↔ y ∈ a.take k ∨ y = x := fun y => by rw [List.take_add_one, hx]; simp
    rw [shareK_step hx]
    by_cases hc : (hasB b x && !hasB (a.take k) x) = true
    · rw [if_pos hc]
      have hc1 : hasB b x = true ∧ hasB (a.take k) x = false := by simpa using hc
      have hb := (hasB_iff _ _).1 hc1.1
      have hn : x ∉ a.take k := fun q => by rw [(hasB_iff _ _).2 q] at hc1; exact absurd hc1.2 (by simp)
      refine ⟨x :: d, ?_, List.nodup_cons.2 ⟨fun q => hn ((h3 x).1 q).1, h2⟩, fun y => ?_⟩
      · rw [h1]; unfold sumL; rw [List.map_cons, List.sum_cons]; omega
      · rw [List.mem_cons, hm, h3]
        constructor
        · rintro (rfl | ⟨q1, q2⟩)
          · exact ⟨.inr rfl, hb⟩
          · exact ⟨.inl q1, q2⟩
        · rintro ⟨q1 | rfl, q2⟩
          · exact .inr ⟨q1, q2⟩
          · exact .inl rfl
    · rw [if_neg hc]
      refine ⟨d, by rw [h1]; omega, h2, fun y => ?_⟩
      rw [hm, h3]
      constructor
      · rintro ⟨q1, q2⟩
        exact ⟨.inl q1, q2⟩
      · rintro ⟨q1 | rfl, q2⟩
        · exact ⟨q1, q2⟩
        · refine ⟨?_, q2⟩
          have h5 := (hasB_iff _ _).2 q2
          cases h6 : hasB (a.take k) y
          · rw [h5, h6] at hc; exact absurd rfl hc
          · exact (hasB_iff _ _).1 h6
theorem sumL_same {es : List Ed} : ∀ (d b : List Int), d.Nodup → (∀ x ∈ d, x ∈ b) → sumL es d ≤ sumL es b
  | [], b, _, _ => by simp [sumL]
  | x :: d, b, hn, hs => by
    obtain ⟨b1, b2, rfl⟩ := List.append_of_mem (hs x List.mem_cons_self)
    have hn' := List.nodup_cons.1 hn
    have ih := sumL_same (es := es) d (b1 ++ b2) hn'.2 fun y hy => by
      have := hs y (List.mem_cons_of_mem _ hy)
      rw [List.mem_append, List.mem_cons] at this
      rw [List.mem_append]
      rcases this with h | h | h
      · exact .inl h
      · subst h; exact absurd hy hn'.1
      · exact .inr h
    unfold sumL at ih ⊢
    simp only [List.map_append, List.map_cons, List.sum_append, List.sum_cons] at ih ⊢
    omega
theorem shareK_comm (es : List Ed) (a b : List Int) : shareK es a b a.length = shareK es b a b.length := by
  obtain ⟨d, h1, h2, h3⟩ := shareK_mem es a b a.length (Nat.le_refl _)
  obtain ⟨e, g1, g2, g3⟩ := shareK_mem es b a b.length (Nat.le_refl _)
  rw [List.take_length] at h3 g3
  rw [h1, g1]
  exact Nat.le_antisymm (sumL_same d e h2 fun x hx => (g3 x).2 ((h3 x).1 hx).symm) (sumL_same e d g2 fun x hx => (h3 x).2 ((g3 x).1 hx).symm)
theorem wtE_small {n : Int} {es : List Ed} (h : rightF n es = 0) (x : Int) : wtE es x ≤ 4294967296 := by
  unfold wtE
  cases he : es[x.toNat]? with
  | none => simp
  | some e => exact ((right_ends h).2.2.2 e (List.mem_of_getElem? he)).2.2.2.2.2.2
set_option maxHeartbeats 1000000 in
theorem pshared8_no (n : Int) (a : Option Addr) (m c : Nat) (al ar : Option Addr) (ml cl mr cr : Nat) (w : World)
    (HE : Hid (∀ W, Below w.heap.size w W → Calls Try.prog 33 #[.agg #[.int .i64 n, .slice a m c], .slice (some ⟨W.heap.size, 0, none⟩) 2 2] (W.alloc (.cells #[.slice al ml cl, .slice ar mr cr] 25)) fun e w' => e = .returned (.bool false) ∧ Below W.heap.size W w')) :
    Calls Try.prog 27 #[.agg #[.int .i64 n, .slice a m c], .slice al ml cl, .slice ar mr cr] w fun e w' => e = .returned (.int .u64 0) ∧ Below w.heap.size w w' := by
  have HU := usable_first HE
  clear HE
  go_enter Try.func27, Try.ntmps27
  go_wp2_with (go_at_call 33; refine HU.out.mono ?_; rintro e w1 ⟨rfl, b0, b1, hB⟩; have HB1 := Lib.hid hB; clear hB HU)
  go_ret
  exact ⟨rfl, HB1.out⟩
set_option maxHeartbeats 4000000 in
theorem pshared8_some (n : Int) (es : List Ed) (a : Option Addr) (m c : Nat) (hm : es.length = m) (hm0 : m ≤ 100000) (l r : List Int) (al ar : Option Addr) (ml cl mr cr : Nat) (hl : l.length = ml) (hr : r.length = mr) (hl1 : ml ≤ 100000) (hr1 : mr ≤ 100000) (hok : okL m l = true) (hok2 : okL m r = true) (hrt : rightF n es = 0) (w : World)
    (HC : Hid (0 < m → ∃ b off, a = some ⟨b, off, none⟩ ∧ ∀ (j : Nat) e, es[j]? = some e → w.cell? ⟨b, off + j * 3, none⟩ = some (.int .i64 e.f) ∧ w.cell? ⟨b, off + j * 3 + 1, none⟩ = some (.int .i64 e.t) ∧ w.cell? ⟨b, off + j * 3 + 2, none⟩ = some (.int .u64 (e.w : Int))))
    (HL : Hid (Ints l al ml w)) (HR : Hid (Ints r ar mr w))
    (HE : Hid (∀ W, Below w.heap.size w W → Calls Try.prog 33 #[.agg #[.int .i64 n, .slice a m c], .slice (some ⟨W.heap.size, 0, none⟩) 2 2] (W.alloc (.cells #[.slice al ml cl, .slice ar mr cr] 25)) fun e w' => e = .returned (.bool true) ∧ Below W.heap.size W w')) :
    Calls Try.prog 27 #[.agg #[.int .i64 n, .slice a m c], .slice al ml cl, .slice ar mr cr] w fun e w' => e = .returned (.int .u64 (shareK es l r ml % 18446744073709551616 : Nat)) ∧ Below w.heap.size w w' := by
  have HU := usable_first HE
  have HOk := Lib.hid (fun x (hx : x ∈ l) => okL_at hok hx)
  have HOk2 := Lib.hid (fun x (hx : x ∈ r) => okL_at hok2 hx)
  have hl2 : (ml : Int) ≤ 100000 := by omega
  have hr2 : (mr : Int) ≤ 100000 := by omega
  have hm1 : (m : Int) ≤ 100000 := by omega
  have hmm := @run_makeMap Try.prog
  clear hok hok2 HE
  go_enter Try.func27, Try.ntmps27
  go_wp2_with (go_at_call 33; refine HU.out.mono ?_; rintro e w1 ⟨rfl, b0, b1, hB⟩; have HB1 := Lib.hid hB; clear hB HU)
  have HW := Lib.hid (fun x => wtE_small hrt x)
  have HB2 := Lib.hid ((Below.refl w1.heap.size w1).alloc (Nat.le_refl _) (.map #[] 0))
  have HM2 : Hid (OwnsW (w1.alloc (.map #[] 0)) w1.heap.size 0 (.map [])) := Lib.hid (World.ownsMap_made _ _ _ _)
  have hPw : w.heap.size < w1.heap.size := World.block_lt_of_cell? w1 _ b1
  clear b0 hrt
  go_loopw [22] (fun i wr => ∃ (k : Nat) (D : DataW Unit), k ≤ ml ∧ i = .int .i64 k ∧ Hid (WMap es (hasB (l.take k)) D) ∧ Hid (OwnsW wr w1.heap.size k D) ∧ Hid (Below w1.heap.size w1 wr)) (fun i _ => ml - (RowKit.intOf i).toNat)
  case atStart => exact ⟨0, _, by omega, rfl, Lib.hid (wmap_zero es), HM2, HB2⟩
  case round =>
    obtain ⟨k, D, hk, rfl, HA, HM, HB⟩ := hrel
    have hi0 : (0 : Int) ≤ (k : Int) := Int.natCast_nonneg _
    by_cases hkm : k < ml
    · obtain ⟨bl, ol, rfl, hcl⟩ := HL.out (by omega)
      have hx0 : l[k]? = some (l[k]'(by omega)) := List.getElem?_eq_getElem (by omega)
      obtain ⟨xk, hxk⟩ : ∃ xk, l[k]'(by omega) = xk := ⟨_, rfl⟩
      rw [hxk] at hx0
      obtain ⟨z0, z1⟩ := HOk.out xk (List.mem_of_getElem? hx0)
      obtain ⟨X, rfl⟩ : ∃ X : Nat, xk = X := ⟨xk.toNat, by omega⟩
      obtain ⟨b, off, rfl, hc⟩ := HC.out (by omega)
      have he0 : es[X]? = some (es[X]'(by omega)) := List.getElem?_eq_getElem (by omega)
      obtain ⟨⟨f, t, x⟩, he⟩ : ∃ e, es[X]'(by omega) = e := ⟨_, rfl⟩
      rw [he] at he0
      have e3 := (hc X _ he0).2.2
      simp only at e3
      have e3 := cell_on HB.out (cell_on HB1.out e3)
      have e4 := cell_on HB.out (cell_on HB1.out (hcl k _ hx0))
      have g1 := cell_on HB.out b1
      have hi1 : (k : Int) < (ml : Int) := by omega
      have hwt : wtE es (X : Int) = x := by simp [wtE, he0]
      have hxs := HW.out (X : Int)
      rw [hwt] at hxs
      have hkey : keyOf Try.prog 3 (.int .i64 (X : Int)) = some (.int .i64 (X : Int)) := keyI8 (WalkArith.wf_i64 (by omega))
      have hval := plainElem_int (H := Unit) (P := Try.prog) (e := 30) Try.underlying30 (show (Lit.int .u64 (x : Int)).wf = true from WalkArith.wf_u64 (by omega))
      have HN2 : Hid (WMap es (hasB (l.take (k + 1))) (D.put (.int .i64 (X : Int)) (.lit (.int .u64 (x : Int))))) := Lib.hid (by
        have := HA.out.put (X : Int)
        rw [hwt] at this
        exact this.congr fun y => (hasB_snoc hx0 y).symm)
      have hsz : w1.heap.size ≤ wr.heap.size := HB.out.size
      clear hwt hxk hx0 he he0 hc hcl HC HL HOk HOk2 HR b1 HM2 HB2 HA hxs
      go_wp2_with (at_mapUpdate; refine wpList_mapUpdate_own _ rfl _ _ _ 64 rfl 3 30 lawI8 Try.underlying64 (plainElem (H := Unit) Try.prog 30) w1.heap.size k D rfl HM.out (by unfold maxLen; omega) _ _ _ rfl rfl hkey (.lit (.int .u64 (x : Int))) [] hval ?_; intro w2 hown2 hgrow2; have HM3 := Lib.hid hown2; have HB3 := Lib.hid (HB.out.grown hgrow2 (by omega) (fun j hj => by cases hj; exact Nat.le_refl _)); clear hown2 hgrow2 HM HB)
      go_roundw
      case rel => exact ⟨k + 1, _, by omega, by go_num, HN2, HM3, HB3⟩
      case measure => simp [RowKit.intOf] <;> omega
    · obtain rfl : k = ml := by omega
      have HA2 : Hid (WMap es (fun y => hasB l y && !hasB (r.take 0) y) D) := Lib.hid (HA.out.congr fun y => by rw [List.take_of_length_le (by omega)]; simp [hasB])
      clear HA HM2 HB2 HL HOk HC b1
      go_wp2
      go_loopw [10, 37] (fun s i wr2 => ∃ (j S : Nat) (D2 : DataW Unit), j ≤ mr ∧ i = .int .i64 j ∧ s = .int .u64 (S : Nat) ∧ S < 18446744073709551616 ∧ Hid (S = shareK es r l j % 18446744073709551616) ∧ Hid (WMap es (fun y => hasB l y && !hasB (r.take j) y) D2) ∧ Hid (OwnsW wr2 w1.heap.size k D2) ∧ Hid (Below w1.heap.size w1 wr2)) (fun _ i _ => mr - (RowKit.intOf i).toNat)
      case atStart => exact ⟨0, 0, _, by omega, rfl, rfl, by omega, Lib.hid rfl, HA2, HM, HB⟩
      case round =>
        obtain ⟨j, S, D2, hj, rfl, rfl, hS, HS, HA3, HM3, HB3⟩ := hrel
        have hj0 : (0 : Int) ≤ (j : Int) := Int.natCast_nonneg _
        by_cases hjm : j < mr
        · obtain ⟨bl, ol, rfl, hcl⟩ := HR.out (by omega)
          have hx0 : r[j]? = some (r[j]'(by omega)) := List.getElem?_eq_getElem (by omega)
          obtain ⟨xk, hxk⟩ : ∃ xk, r[j]'(by omega) = xk := ⟨_, rfl⟩
          rw [hxk] at hx0
          obtain ⟨z0, z1⟩ := HOk2.out xk (List.mem_of_getElem? hx0)
          have e4 := cell_on HB3.out (cell_on HB1.out (hcl j _ hx0))
          have hj1 : (j : Int) < (mr : Int) := by omega
          have hkey : keyOf Try.prog 3 (.int .i64 xk) = some (.int .i64 xk) := keyI8 (WalkArith.wf_i64 (by omega))
          obtain ⟨V, hV⟩ : ∃ V, (if (hasB l xk && !hasB (r.take j) xk) = true then wtE es xk else 0) = V := ⟨_, rfl⟩
          have hlook := HM3.out.lookup_int (t := 64) lawI8 Try.underlying64 Try.underlying30 (zeroU8 _) hkey
          obtain ⟨cc, hrun, hat, _⟩ := hlook
          have hat2 : D2.atKey (.int .i64 xk) (.lit (.int .u64 0)) = .lit (.int .u64 ((if (hasB l xk && !hasB (r.take j) xk) = true then wtE es xk else 0 : Nat) : Int)) := HA3.out.look xk
          rw [hat, hV] at hat2
          obtain rfl : cc = (V : Int) := by injection hat2 with q; injection q
          have hstep := shareK_step (es := es) (b := l) hx0
          rw [hV] at hstep
          have HS2 := Lib.hid (show (S + V) % 18446744073709551616 = shareK es r l (j + 1) % 18446744073709551616 from by rw [hstep, HS.out]; omega)
          have hz : (S + V) % 18446744073709551616 < 18446744073709551616 := Nat.mod_lt _ (by decide)
          have hw2 := guw_add S V
          obtain ⟨S2, hS2⟩ : ∃ S2, (S + V) % 18446744073709551616 = S2 := ⟨_, rfl⟩
          rw [hS2] at HS2 hz hw2
          have HN2 : Hid (WMap es (fun y => hasB l y && !hasB (r.take (j + 1)) y) (D2.del (.int .i64 xk))) := Lib.hid ((HA3.out.del xk).congr fun y => by rw [hasB_snoc hx0 y]; cases hasB l y <;> cases hasB (r.take j) y <;> simp)
          have hsz := HB3.out.size
          clear hat hat2 hstep hV hS2 hxk hx0 hcl HR HOk2 HA3 HS z0 z1
          go_wp2_with (at_delete; refine wpList_delete_own _ rfl _ _ 64 3 rfl 30 lawI8 Try.underlying64 (plainElem (H := Unit) Try.prog 30) w1.heap.size k D2 rfl HM3.out _ _ rfl hkey ?_; intro w2 hown2 hturn2; have HM4 := Lib.hid hown2; have HB4 := Lib.hid (HB3.out.grown hturn2.grown (by omega) (fun j hj => by cases hj; exact Nat.le_refl _)); clear hown2 hturn2 HM3 HB3 hrun)
          go_roundw
          case rel => exact ⟨j + 1, S2, _, by omega, by go_num, rfl, hz, HS2, HN2, HM4, HB4⟩
          case measure => simp [RowKit.intOf] <;> omega
        · obtain rfl : j = mr := by omega
          have HN : Hid (shareK es l r k % 18446744073709551616 = S) := Lib.hid (by rw [HS.out, ← hl, ← hr, shareK_comm])
          have HZ := Lib.hid (HB1.out.trans (HB3.out.mono HB1.out.size))
          go_wp2
          go_ret
          exact ⟨by rw [HN.out]; rfl, HZ.out⟩
theorem pshared8_any (n : Int) {v u z : Value} {es : List Ed} {l r : List Int} (hl : l.length ≤ 10000) (hr : r.length ≤ 10000) (he : es.length ≤ 100000) (w : World) (h : EdgesAt w v es) (hi : IntsAt w u l) (hj : IntsAt w z r) :
    Calls Try.prog 27 #[.agg #[.int .i64 n, v], u, z] w fun e w' => e = .returned (.int .u64 (sharedF n es l r : Nat)) ∧ Below w.heap.size w w' := by
  have h' := h
  obtain ⟨a, c, rfl, g⟩ := edgesAt_flat h
  obtain ⟨al, cl, rfl, _, k⟩ := hi
  obtain ⟨ar, cr, rfl, _, k2⟩ := hj
  have HE := Lib.hid (pusable_two n a es.length c es rfl l r al ar l.length cl r.length cr rfl rfl (by omega) (by omega) w h' (Lib.hid k) (Lib.hid k2))
  unfold sharedF
  cases hF : (edF n es l && edF n es r)
  · have hn : ¬ (edF n es l = true ∧ edF n es r = true) := by simpa using hF
    rw [if_neg hn]
    rw [hF] at HE
    exact pshared8_no n a es.length c al ar l.length cl r.length cr w HE
  · have hn : edF n es l = true ∧ edF n es r = true := by simpa using hF
    rw [if_pos hn]
    rw [hF] at HE
    exact pshared8_some n es a es.length c rfl he l r al ar l.length cl r.length cr rfl rfl (by omega) (by omega) (edF_ok hn.1).2 (edF_ok hn.2).2 (edF_ok hn.1).1 w (Lib.hid g) (Lib.hid k) (Lib.hid k2) HE
end Go.Proofs.Ytifljelphniipaa
