import Derived.Test.YtifljelphniipaaPthZe
import Derived.Test.YtifljelphniipaaPthH
set_option linter.unusedVariables false
set_option linter.unusedSimpArgs false
namespace Go.Proofs.Ytifljelphniipaa
open Go.RowKit
attribute [local go_sem ↓] Go.wp_at_zero Go.wp_at_succ
set_option maxHeartbeats 1000000 in
theorem poff8_no (n : Int) (a : Option Addr) (m c : Nat) (al : Option Addr) (ml cl : Nat) (w : World)
    (HE : Hid (∀ W, Below w.heap.size w W → Calls Try.prog 33 #[.agg #[.int .i64 n, .slice a m c], .slice (some ⟨W.heap.size, 0, none⟩) 1 1] (W.alloc (.cells #[.slice al ml cl] 25)) fun e w' => e = .returned (.bool false) ∧ Below W.heap.size W w')) :
    Calls Try.prog 19 #[.agg #[.int .i64 n, .slice a m c], .slice al ml cl] w fun e w' => e = .returned (.slice none 0 0) ∧ Below w.heap.size w w' := by
  have HU := usable_first HE
  clear HE
  go_enter Try.func19, Try.ntmps19
  go_wp2_with (go_at_call 33; refine HU.out.mono ?_; rintro e w1 ⟨rfl, b0, b1, hB⟩; have HB1 := Lib.hid hB; clear hB HU)
  go_ret
  exact ⟨rfl, HB1.out⟩
set_option maxHeartbeats 2000000 in
theorem poff8_some (n : Int) (es : List Ed) (a : Option Addr) (m c : Nat) (hm : es.length = m) (hm0 : m ≤ 100000) (l : List Int) (al : Option Addr) (ml cl : Nat) (hl : l.length = ml) (hl1 : ml ≤ 10000) (hok : okL m l = true) (w : World)
    (HC : Hid (0 < m → ∃ b off, a = some ⟨b, off, none⟩ ∧ ∀ (j : Nat) e, es[j]? = some e → w.cell? ⟨b, off + j * 3, none⟩ = some (.int .i64 e.f) ∧ w.cell? ⟨b, off + j * 3 + 1, none⟩ = some (.int .i64 e.t) ∧ w.cell? ⟨b, off + j * 3 + 2, none⟩ = some (.int .u64 (e.w : Int))))
    (HL : Hid (Ints l al ml w))
    (HE : Hid (∀ W, Below w.heap.size w W → Calls Try.prog 33 #[.agg #[.int .i64 n, .slice a m c], .slice (some ⟨W.heap.size, 0, none⟩) 1 1] (W.alloc (.cells #[.slice al ml cl] 25)) fun e w' => e = .returned (.bool true) ∧ Below W.heap.size W w')) :
    Calls Try.prog 19 #[.agg #[.int .i64 n, .slice a m c], .slice al ml cl] w fun e w' => ∃ v, e = .returned v ∧ NatsAt w' v (offK es l ml) ∧ Below w.heap.size w w' := by
  have HU := usable_first HE
  clear HE
  have HOk := Lib.hid (fun x (hx : x ∈ l) => okL_at hok hx)
  have hl2 : (ml : Int) ≤ 10000 := by omega
  have hm1 : (m : Int) ≤ 100000 := by omega
  obtain ⟨i0, hi, hz0, hz1, hz2⟩ := info_parts infoU64
  clear hok
  go_enter Try.func19, Try.ntmps19
  go_wp2_with (go_at_call 33; refine HU.out.mono ?_; rintro e w1 ⟨rfl, b0, b1, hB⟩; have HB1 := Lib.hid hB; clear hB HU)
  have hPw : w.heap.size < w1.heap.size := World.block_lt_of_cell? w1 _ b1
  have HO0 : Hid ((w1.alloc (.cells #[.int .u64 0] 30)).ownsRow w1.heap.size 30 1 (.slice (some ⟨w1.heap.size, 0, none⟩) 1 1) (0 + 1) (wordV (offK es l 0))) := Lib.hid (by rw [show offK es l 0 = [0] from rfl]; exact owns_fullI w1 [.int .u64 0] w1.heap.size 1 30 (Nat.le_refl _) rfl (by unfold maxLen; omega))
  have HBa : Hid (Below w1.heap.size w1 (w1.alloc (.cells #[.int .u64 0] 30))) := Lib.hid ((Below.refl _ _).alloc (Nat.le_refl _) _)
  clear b0
  go_loopw [5, 6, 17] (fun v s i wr => ∃ (k S : Nat), k ≤ ml ∧ i = .int .i64 k ∧ s = .int .u64 (S : Nat) ∧ S < 18446744073709551616 ∧ Hid (S = sumL es (l.take k) % 18446744073709551616) ∧ Hid (wr.ownsRow w1.heap.size 30 1 v (k + 1) (wordV (offK es l k))) ∧ Hid (Below w1.heap.size w1 wr)) (fun _ _ i _ => ml - (RowKit.intOf i).toNat)
  case atStart => exact ⟨0, 0, by omega, rfl, rfl, by omega, Lib.hid rfl, HO0, HBa⟩
  case round =>
    obtain ⟨k, S, hk, rfl, rfl, hS, HS, HO, HB⟩ := hrel
    obtain ⟨gg, cap, rfl, hg1, hg2⟩ := HO.out.form (by omega)
    by_cases hkm : k < ml
    · obtain ⟨bl, ol, rfl, hcl⟩ := HL.out (by omega)
      have hx0 : l[k]? = some (l[k]'(by omega)) := List.getElem?_eq_getElem (by omega)
      obtain ⟨xk, hxk⟩ : ∃ xk, l[k]'(by omega) = xk := ⟨_, rfl⟩
      rw [hxk] at hx0
      obtain ⟨z0, z1⟩ := HOk.out xk (List.mem_of_getElem? hx0)
      obtain ⟨X, rfl⟩ : ∃ X : Nat, xk = X := ⟨xk.toNat, by omega⟩
      obtain ⟨b, off, rfl, hc⟩ := HC.out (by omega)
      have he0 : es[X]? = some (es[X]'(by omega)) := List.getElem?_eq_getElem (by omega)
      obtain ⟨⟨f, t, x⟩, he⟩ : ∃ e, es[X]'(by omega) = e := ⟨_, rfl⟩
      rw [he] at he0
      have e3 := (hc X _ he0).2.2
      simp only at e3
      have e3 := cell_on HB.out (cell_on HB1.out e3)
      have e4 := cell_on HB.out (cell_on HB1.out (hcl k _ hx0))
      have g1 := cell_on HB.out b1
      have hi0 : (0 : Int) ≤ (k : Int) := Int.natCast_nonneg _
      have hi1 : (k : Int) < (ml : Int) := by omega
      have HN := Lib.hid (sumL_take es hx0 he0)
      have HS2 := Lib.hid (show (S + x) % 18446744073709551616 = sumL es (l.take (k + 1)) % 18446744073709551616 from by rw [HN.out, HS.out]; simp only; omega)
      have hz : (S + x) % 18446744073709551616 < 18446744073709551616 := Nat.mod_lt _ (by decide)
      have hw2 := guw_add S x
      obtain ⟨S2, hS2⟩ : ∃ S2, (S + x) % 18446744073709551616 = S2 := ⟨_, rfl⟩
      rw [hS2] at HS2 hz hw2
      have HS3 : Hid (offK es l (k + 1) = offK es l k ++ [S2]) := Lib.hid (by rw [offK_succ, HS2.out])
      have hsz := HB.out.size
      clear hS2 HN HS hxk hx0 he he0 hc hcl HC HL HOk b1 HO0 HBa
      go_wp2_with (at_builtin; refine wpList_append_lies _ rfl _ _ 37 rfl w1.heap.size 30 i0 (.int .u64 0) 1 8 Try.underlying37 hi hz0 hz1 hz2 rfl (by decide) _ _ _ rfl (HO.out.alloc _) ⟨wr.heap.size, 0, none⟩ 1 1 [.int .u64 (S2 : Int)] rfl rfl ?c1 ?c2 (by omega) ?c3 ?c4 ?c5 _ rfl ?_)
      case c1 => exact World.news_of_block (cs := #[.int .u64 (S2 : Int)]) (t := 30) (fr := (0, 0)) (heap_alloc_new wr _)
      case c2 => intro u hu; simp at hu; subst hu; rfl
      case c3 => unfold maxLen; omega
      case c4 => omega
      case c5 => simp; omega
      intro gg2 cap2 w5 hown hgrow hat hlt
      have HO5 : Hid (w5.ownsRow w1.heap.size 30 1 (.slice (some ⟨gg2, 0, none⟩) (k + 1 + 1) cap2) (k + 1 + 1) (wordV (offK es l (k + 1)))) := Lib.hid (by rw [HS3.out, wordV_snoc]; exact hown)
      have HB5 := Lib.hid (below_growE (HB.out.alloc HB.out.size (.cells #[.int .u64 (S2 : Int)] 30)) (Nat.le_refl _) (by simp; omega) (HO.out.alloc (.cells #[.int .u64 (S2 : Int)] 30)) hgrow)
      clear hown hgrow hat hlt HO HB e3 e4 g1
      go_wp2
      go_roundw
      case rel => exact ⟨k + 1, S2, by omega, by go_num, rfl, hz, HS2, HO5, HB5⟩
      case measure => simp [RowKit.intOf] <;> omega
    · obtain rfl : k = ml := by omega
      have HV : Hid (NatsAt wr (.slice (some ⟨gg, 0, none⟩) (k + 1) cap) (offK es l k)) := Lib.hid (nats_own8 (by rw [offK_len]; exact HO.out))
      have HZ := Lib.hid (HB1.out.trans (HB.out.mono HB1.out.size))
      go_wp2
      go_ret
      exact ⟨_, rfl, HV.out, HZ.out⟩
theorem poff8_any (n : Int) {v u : Value} {es : List Ed} {l : List Int} (hl : l.length ≤ 10000) (he : es.length ≤ 100000) (w : World) (h : EdgesAt w v es) (hi : IntsAt w u l) :
    Calls Try.prog 19 #[.agg #[.int .i64 n, v], u] w fun e w' => ∃ v', e = .returned v' ∧ NatsAt w' v' (offF n es l) ∧ Below w.heap.size w w' := by
  have h' := h
  obtain ⟨a, c, rfl, g⟩ := edgesAt_flat h
  obtain ⟨al, cl, rfl, _, k⟩ := hi
  have HE := Lib.hid (pusable_one n a es.length c es rfl l al l.length cl rfl (by omega) w h' (Lib.hid k))
  unfold offF
  cases hF : edF n es l
  · rw [if_neg (by simp)]
    rw [hF] at HE
    exact (poff8_no n a es.length c al l.length cl w HE).mono fun e w' ⟨e1, e2⟩ => ⟨_, e1, nats_nil _, e2⟩
  · rw [if_pos rfl]
    rw [hF] at HE
    exact poff8_some n es a es.length c rfl he l al l.length cl rfl (by omega) (edF_ok hF).2 w (Lib.hid g) (Lib.hid k) HE
end Go.Proofs.Ytifljelphniipaa
