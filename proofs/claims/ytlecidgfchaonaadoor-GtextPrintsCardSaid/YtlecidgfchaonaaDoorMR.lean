import Derived.Test.YtlecidgfchaonaaDoorMO
import Derived.Test.YtlecidgfchaonaaDoorMH
import Derived.Lib.Builder
import Derived.Lib.AppendStr
import Derived.Lib.UnsafeStr
import Derived.Laws.Externs
import Derived.Test.YtlecidgfchaonaaDoorMM
set_option linter.unusedVariables false
set_option linter.unusedSimpArgs false
namespace Go.Proofs.YtlecidgfchaonaaDoor
open Go.RowKit Go.Sort Go.Lib
attribute [local go_sem ↓] Go.wp_at_zero Go.wp_at_succ
set_option maxHeartbeats 1000000 in
theorem pwords6_no (n : Int) (a : Option Addr) (m c : Nat) (F R : Int) (hF : (F ≠ 0 ∧ R = 1) ∨ (F = 0 ∧ 16384 < 2 + 3 * m ∧ R = 5)) (hm : F = 0 → m ≤ 100000) (w : World)
    (HR : Hid (∀ W, Below w.heap.size w W → Calls Tryd.prog 19 #[.agg #[.int .i64 n, .slice a m c]] W fun e w' => e = .returned (.int .i64 F) ∧ Below W.heap.size W w')) :
    Calls Tryd.prog 8 #[.agg #[.int .i64 n, .slice a m c]] w fun e w' => e = .returned (.tuple #[.slice none 0 0, .int .i64 R]) ∧ Below w.heap.size w w' := by
  have HB0 := Lib.hid ((Below.refl w.heap.size w).alloc (Nat.le_refl _) (.cells #[.int .i64 n, .slice a m c] 24))
  rcases hF with ⟨h, rfl⟩ | ⟨rfl, h, rfl⟩
  · have hne : (F != 0) = true := by rw [bne_iff_ne]; exact h
    clear h hm
    go_enter Tryd.func8, Tryd.ntmps8
    go_wp2_with (go_at_call 19; refine (HR.out _ HB0.out).mono ?_; rintro e w1 ⟨rfl, hB⟩; have HB1 := Lib.hid (on_trans HB0.out hB); clear hB HR)
    go_ret2
    exact ⟨rfl, HB1.out⟩
  · have hm1 : (m : Int) ≤ 100000 := by have := hm rfl; omega
    have hd : decide ((16384 : Int) < 2 + 3 * (m : Int)) = true := decide_eq_true (by omega)
    clear hm h
    go_enter Tryd.func8, Tryd.ntmps8
    go_wp2_with (go_at_call 19; refine (HR.out _ HB0.out).mono ?_; rintro e w1 ⟨rfl, hB⟩; have b1 := cell_on hB (p := ⟨w.heap.size, 1, none⟩) (v := .slice a m c) (by simp); have HB1 := Lib.hid (on_trans HB0.out hB); clear hB HR)
    go_ret2
    exact ⟨rfl, HB1.out⟩
theorem cells2 {w : World} {b : Nat} {x y : Nat} (h0 : w.cell? ⟨b, 0, none⟩ = some (.int .u64 (x : Int))) (h1 : w.cell? ⟨b, 1, none⟩ = some (.int .u64 (y : Int))) : ∀ (j : Nat) u, [x, y][j]? = some u → w.cell? ⟨b, j, none⟩ = some (.int .u64 (u : Int)) := fun j u hj => by
  match j, hj with
  | 0, hj => obtain rfl : x = u := by simpa using hj
             exact h0
  | 1, hj => obtain rfl : y = u := by simpa using hj
             exact h1
  | j + 2, hj => simp at hj
theorem cells3 {w : World} {b : Nat} {x y z : Nat} (h0 : w.cell? ⟨b, 0, none⟩ = some (.int .u64 (x : Int))) (h1 : w.cell? ⟨b, 1, none⟩ = some (.int .u64 (y : Int))) (h2 : w.cell? ⟨b, 2, none⟩ = some (.int .u64 (z : Int))) : ∀ (j : Nat) u, [x, y, z][j]? = some u → w.cell? ⟨b, j, none⟩ = some (.int .u64 (u : Int)) := fun j u hj => by
  match j, hj with
  | 0, hj => obtain rfl : x = u := by simpa using hj
             exact h0
  | 1, hj => obtain rfl : y = u := by simpa using hj
             exact h1
  | 2, hj => obtain rfl : z = u := by simpa using hj
             exact h2
  | j + 3, hj => simp at hj
theorem head_words6 (N m : Nat) (es : List Ed) : ([] : List ByteArray) ++ digW [N, m] = wordsK N m es 0 := by simp [digW, wordsK]
theorem own_ne_ge {w : World} {base : Nat} {e : TypeId} {sz n : Nat} {v : Value} {xs : List Value} (h : w.ownsRow base e sz v n xs) {b : Nat} (hb : w.heap.size ≤ b) : some b ≠ v.ownBlock := fun x => by
  have := (h.lt _ x.symm).2
  omega
set_option maxHeartbeats 4000000 in
theorem pwords6_right (N : Nat) (es : List Ed) (a : Option Addr) (m c : Nat) (hm : es.length = m) (hl : m ≤ 16384) (hN : N ≤ 4096) (hs : ¬ 16384 < 2 + 3 * m) (hends : Hid (∀ e ∈ es, 0 ≤ e.f ∧ e.f < N ∧ 0 ≤ e.t ∧ e.t < N ∧ e.w ≤ 4294967296)) (w : World) (htab : Pow10 w)
    (HC : Hid (0 < m → ∃ b off, a = some ⟨b, off, none⟩ ∧ ∀ (j : Nat) e, es[j]? = some e → w.cell? ⟨b, off + j * 3, none⟩ = some (.int .i64 e.f) ∧ w.cell? ⟨b, off + j * 3 + 1, none⟩ = some (.int .i64 e.t) ∧ w.cell? ⟨b, off + j * 3 + 2, none⟩ = some (.int .u64 (e.w : Int))))
    (HR : Hid (∀ W, Below w.heap.size w W → Calls Tryd.prog 19 #[.agg #[.int .i64 (N : Int), .slice a m c]] W fun e w' => e = .returned (.int .i64 0) ∧ Below W.heap.size W w')) :
    Calls Tryd.prog 8 #[.agg #[.int .i64 (N : Int), .slice a m c]] w fun e w' => ∃ v, e = .returned (.tuple #[v, .int .i64 0]) ∧ StrsAt w' v (wordsG N es) ∧ Below w.heap.size w w' := by
  have HB0 := Lib.hid ((Below.refl w.heap.size w).alloc (Nat.le_refl _) (.cells #[.int .i64 (N : Int), .slice a m c] 24))
  have hm1 : (m : Int) ≤ 16384 := by omega
  have hN1 : (N : Int) ≤ 4096 := by omega
  have hd : decide ((16384 : Int) < 2 + 3 * (m : Int)) = false := decide_eq_false (by omega)
  have HcH := Lib.hid (fun W => headOf_any N (by omega) a m c (by omega) W)
  have htb := size_pos htab
  have HT := Lib.hid (fun W (hb : Below w.heap.size w W) => pow10_below htab hb htb)
  have HCb : Hid (∀ b off (e : Ed), w.cell? ⟨b, off, none⟩ = some (.int .i64 e.f) → b < w.heap.size) := Lib.hid fun b off e h => World.block_lt_of_cell? w _ h
  clear htab
  go_enter Tryd.func8, Tryd.ntmps8
  go_wp2_with (first
    | (go_at_call 19; refine (HR.out _ HB0.out).mono ?_; rintro e w1 ⟨rfl, hB⟩; have b0 := cell_on hB (p := ⟨w.heap.size, 0, none⟩) (v := .int .i64 (N : Int)) (by simp); have b1 := cell_on hB (p := ⟨w.heap.size, 1, none⟩) (v := .slice a m c) (by simp); have HB1 := Lib.hid (on_trans HB0.out hB); clear hB HR)
    | (go_at_call 21; refine (HcH.out _).mono ?_; rintro e w2 ⟨b, rfl, hb, h0, h1, hB⟩; have HBb := Lib.hid hb; have Hc2 := Lib.hid (cells2 h0 h1); have HB2 := Lib.hid (on_trans HB1.out hB); have b2 := cell_on hB b1; clear hB hb h0 h1 b0 b1 HcH)
    | (go_at_call 20; refine (app_any [N, m] 2 rfl (by omega) (by intro u hu; simp at hu; omega) b 2 w.heap.size 0 [] rfl (by omega) (.slice none 0 0) _ HB2.out.size htb (HT.out _ HB2.out) (World.ownsRow_nil _ _ _ _) (by simp [Value.ownBlock]) Hc2.out).mono ?_; rintro e w3 ⟨v3, rfl, hO, hG, hX⟩; have HO3 := Lib.hid hO; have HG3 := Lib.hid hG; have b3 := far_cell hG (by simp [Value.ownBlock]) b2; clear hO hG hX b2))
  have HB3 := Lib.hid (HB2.out.grown HG3.out HB2.out.size (fun j hj => by cases hj))
  have HZ3 : Hid (w.heap.size ≤ w3.heap.size) := Lib.hid HB3.out.size
  have HO4 : Hid (w3.ownsRow w.heap.size 9 1 v3 (2 + 3 * 0) ((wordsK N m es 0).map Value.string)) := Lib.hid (by rw [← head_words6]; exact HO3.out)
  clear HO3 HG3 HB2 HB1 HB0 HBb Hc2 b3 hs
  go_loopw [4, 24] (fun v i wr => ∃ k : Nat, k ≤ m ∧ i = .int .i64 k ∧ Hid (wr.ownsRow w.heap.size 9 1 v (2 + 3 * k) ((wordsK N m es k).map Value.string)) ∧ Hid (Below w.heap.size w wr) ∧ Hid (w.heap.size ≤ wr.heap.size)) (fun _ i _ => m - (RowKit.intOf i).toNat)
  case atStart => exact ⟨0, by omega, rfl, HO4, HB3, HZ3⟩
  case round =>
    obtain ⟨k, hk, rfl, HO, HB, HZ⟩ := hrel
    obtain ⟨av, cv, rfl⟩ := slice_form HO.out
    by_cases hkm : k < m
    · obtain ⟨b, off, rfl, hc⟩ := HC.out (by omega)
      have he0 : es[k]? = some (es[k]'(by omega)) := List.getElem?_eq_getElem (by omega)
      obtain ⟨⟨f, t, x⟩, he⟩ : ∃ e, es[k]'(by omega) = e := ⟨_, rfl⟩
      rw [he] at he0
      obtain ⟨e1, e2, e3⟩ := hc k _ he0
      simp only at e1 e2 e3
      obtain ⟨n1, n2, n3, n4, n5⟩ := hends.out ⟨f, t, x⟩ (he ▸ List.getElem_mem _)
      simp only at n1 n2 n3 n4 n5
      obtain ⟨F, rfl⟩ : ∃ F : Nat, f = F := ⟨f.toNat, by omega⟩
      obtain ⟨T, rfl⟩ : ∃ T : Nat, t = T := ⟨t.toNat, by omega⟩
      have hbs := HCb.out b _ ⟨F, T, x⟩ e1
      have e1 := cell_lt HB.out (show b < w.heap.size from hbs) e1
      have e2 := cell_lt HB.out (show b < w.heap.size from hbs) e2
      have e3 := cell_lt HB.out (show b < w.heap.size from hbs) e3
      have HcE := Lib.hid (fun W => edgeOf_any F T x (by omega) (by omega) W)
      have HBa : Hid (Below wr.heap.size wr (wr.alloc (.cells #[.int .i64 (F : Int), .int .i64 (T : Int), .int .u64 (x : Int)] 43))) := Lib.hid ((Below.refl _ _).alloc (Nat.le_refl _) _)
      have hi0 : (0 : Int) ≤ (k : Int) := Int.natCast_nonneg _
      have hi1 : (k : Int) < (m : Int) := by omega
      have HLS := Lib.hid (wordsK_succ (N := N) (m := m) he0)
      have HNs : Hid (∀ u ∈ [F, T, x], u < 18446744073709551616) := Lib.hid (by intro u hu; simp at hu; omega)
      have HLn : Hid ((wordsK N m es k).length = 2 + 3 * k ∧ 2 + 3 * k ≤ 1000000) := Lib.hid ⟨wordsK_len (by omega), by omega⟩
      clear he he0 hc HC HO4 HB3 HZ3 n1 n2 n3 n4 n5 hbs
      go_wp2_with (first
        | (go_at_call 22; refine (HcE.out _).mono ?_; rintro e w4 ⟨b4, rfl, hb, h0, h1, h2, hB⟩; have HBb := Lib.hid hb; have Hc4 := Lib.hid (cells3 h0 h1 h2); have HB4 := Lib.hid (on_trans HBa.out hB); clear hB hb h0 h1 h2 HcE)
        | (go_at_call 20; refine (app_any [F, T, x] 3 rfl (by omega) HNs.out b4 3 w.heap.size (2 + 3 * k) (wordsK N m es k) HLn.out.1 HLn.out.2 (.slice av (2 + 3 * k) cv) _ (Nat.le_trans HZ.out HB4.out.size) htb (HT.out _ (HB.out.trans (HB4.out.mono HZ.out))) (owns_on HO.out HB4.out) (own_ne_ge HO.out (Nat.le_trans HBa.out.size HBb.out)) Hc4.out).mono ?_; rintro e w5 ⟨v5, rfl, hO, hG, hX⟩; have HO5 := Lib.hid hO; have HG5 := Lib.hid hG; clear hO hG hX))
      have HB5 := Lib.hid (below_growE (HB.out.trans (HB4.out.mono HZ.out)) (Nat.le_refl w.heap.size) (Nat.le_trans HZ.out HB4.out.size) (owns_on HO.out HB4.out) HG5.out)
      have HZ5 := Lib.hid (Nat.le_trans (Nat.le_trans HZ.out HB4.out.size) HG5.out.size)
      clear HG5 HB4 HBb Hc4 HBa HO HB HZ e1 e2 e3 HNs HLn
      go_roundw
      case rel => exact ⟨k + 1, by omega, by go_num, Lib.hid (by rw [HLS.out, show 2 + 3 * (k + 1) = 2 + 3 * k + 3 by omega]; exact HO5.out), HB5, HZ5⟩
      case measure => simp [RowKit.intOf] <;> omega
    · obtain rfl : k = m := by omega
      have HS := Lib.hid (show StrsAt wr (.slice av (2 + 3 * k) cv) (wordsG N es) from by
        have h1 := HO.out
        have h2 : wordsK N k es k = wordsG N es := by unfold wordsK wordsG; rw [List.take_of_length_le (by omega), hm]
        rw [h2] at h1
        have h3 := wordsG_len N es
        rw [hm] at h3
        rw [← h3] at h1 ⊢
        exact StrsAt.own h1)
      go_wp2
      go_ret2
      exact ⟨_, rfl, HS.out, HB.out⟩
theorem pwords6_any (n : Int) {v : Value} {es : List Ed} (w : World) (hl : es.length ≤ 100000) (h : EdgesAt w v es) (htab : Pow10 w) :
    Calls Tryd.prog 8 #[.agg #[.int .i64 n, v]] w fun e w' => ∃ v', e = .returned (.tuple #[v', .int .i64 (gwordsF n es)]) ∧ StrsAt w' v' (gwordsV n es) ∧ Below w.heap.size w w' := by
  have HR := Lib.hid (fun W (hB : Below w.heap.size w W) => pright_any n W (h.on hB))
  obtain ⟨a, c, rfl, g⟩ := edgesAt_flat h
  unfold gwordsV gwordsF
  by_cases h1 : rightF n es = 0
  · rw [if_pos h1]
    rw [h1] at HR
    by_cases h2 : 16384 < 2 + 3 * es.length
    · rw [if_pos h2, if_neg (by decide)]
      exact (pwords6_no n a es.length c 0 5 (.inr ⟨rfl, h2, rfl⟩) (fun _ => hl) w HR).mono fun e w' ⟨e1, e2⟩ => ⟨_, e1, StrsAt.none _ _ _, e2⟩
    · rw [if_neg h2, if_pos rfl]
      have hn : 1 ≤ n ∧ n ≤ 4096 := by
        unfold rightF at h1
        split at h1
        · cases h1
        · omega
      obtain ⟨N, rfl⟩ : ∃ N : Nat, n = N := ⟨n.toNat, by omega⟩
      rw [Int.toNat_natCast]
      exact pwords6_right N es a es.length c rfl (by omega) (by omega) h2 (Lib.hid fun e he => right_edges h1 e he) w htab (Lib.hid g) HR
  · rw [if_neg h1, if_neg (by decide)]
    exact (pwords6_no n a es.length c _ 1 (.inl ⟨h1, rfl⟩) (fun h => absurd h h1) w HR).mono fun e w' ⟨e1, e2⟩ => ⟨_, e1, StrsAt.none _ _ _, e2⟩
end Go.Proofs.YtlecidgfchaonaaDoor

namespace Go.Proofs.YtlecidgfchaonaaDoor
open Go.RowKit Go.Sort Go.Lib
attribute [local go_sem ↓] Go.wp_at_zero Go.wp_at_succ
/-! A strings.Builder of the call's own, at this seat's translation (here copyCheck's panic is no text). -/
abbrev Bat (B b : Nat) (bs : List Value) (w : World) : Prop := Lib.BuilderAt 53 5 B b (.pointer (some ⟨b, 0, none⟩)) bs w
theorem at_on {T e : TypeId} {B b : Nat} {p : Value} {bs : List Value} {w w' : World} (h : Lib.BuilderAt T e B b p bs w) (hb : Below w.heap.size w w') : Lib.BuilderAt T e B b p bs w' := by
  have hlt := h.lt
  obtain ⟨hB, v, hbk, hown, hne⟩ := h
  exact ⟨hB, v, (hb.block b hlt).trans hbk, owns_on hown hb, hne⟩
theorem is_on {B b : Nat} {bs : List Value} {w w' : World} (h : Lib.IsBuilder 53 5 B b bs w) (hb : Below w.heap.size w w') : Lib.IsBuilder 53 5 B b bs w' := h.elim (fun x => .inl (at_on x hb)) (fun x => .inr (at_on x hb))
theorem info53 : (Tryd.prog.info? 53).map (fun i => i.size) = some 2 := by kernel_rfl
set_option maxHeartbeats 1000000 in
theorem bcheck_used (b : Nat) (w : World) (h0 : w.cell? ⟨b, 0, none⟩ = some (.pointer (some ⟨b, 0, none⟩))) :
    Calls Tryd.prog 45 #[.pointer (some ⟨b, 0, none⟩)] w fun e w' => e = .returned (.tuple #[]) ∧ w' = w := by
  obtain ⟨j, hj, _⟩ := Option.map_eq_some_iff.1 info53
  have hne : (binOp .neq 50 (.pointer (some ⟨b, 0, none⟩)) (.pointer (some ⟨b, 0, none⟩))).run Tryd.prog w = .ok (.bool false) w := Lib.run_neq_ptr_same w ⟨b, 0, none⟩ Tryd.underlying50 hj
  go_enter Tryd.func45, Tryd.ntmps45
  go_wp2
  go_end0
  exact ⟨rfl, rfl⟩
set_option maxHeartbeats 1000000 in
theorem bcheck_fresh (b : Nat) (w : World) (h0 : w.cell? ⟨b, 0, none⟩ = some (.pointer none)) (hsh : w.shape? b = some (53, 2)) (hfz : w.frozen? ⟨b, 0, none⟩ = false) :
    Calls Tryd.prog 45 #[.pointer (some ⟨b, 0, none⟩)] w fun e w' => e = .returned (.tuple #[]) ∧ w' = w.setCell ⟨b, 0, none⟩ (.pointer (some ⟨b, 0, none⟩)) := by
  obtain ⟨j, hj, hjs⟩ := Option.map_eq_some_iff.1 info53
  have hto : (convert 50 92 (.pointer (some ⟨b, 0, none⟩))).run Tryd.prog w = .ok (.pointer (some ⟨b, 0, none⟩)) w := Lib.run_to_unsafe w ⟨b, 0, none⟩ Tryd.underlying50 Tryd.underlying92 hj (by rw [hjs]; decide) hsh (Nat.zero_lt_succ 1)
  have hfrom : (convert 92 50 (.pointer (some ⟨b, 0, none⟩))).run Tryd.prog w = .ok (.pointer (some ⟨b, 0, none⟩)) w := Lib.run_from_unsafe w ⟨b, 0, none⟩ Tryd.underlying92 Tryd.underlying50 hj hsh (by kernel_rfl)
  have hext : (callFunc 57 #[.pointer (some ⟨b, 0, none⟩)]).run Tryd.prog w = .ok (.value (.pointer (some ⟨b, 0, none⟩))) w := by
    rw [run_callFunc_extern Tryd.func57 (by kernel_rfl) (by kernel_rfl) (by kernel_rfl) (e := Extern.AbiNoEscape.same) (by kernel_rfl)]
    rw [Lib.run_noEscape]
    rfl
  go_enter Tryd.func45, Tryd.ntmps45
  go_wp2
  go_end0
  exact ⟨rfl, rfl⟩
theorem bcheck_any (B b : Nat) (bs : List Value) (w : World) (h : Lib.IsBuilder 53 5 B b bs w) :
    Calls Tryd.prog 45 #[.pointer (some ⟨b, 0, none⟩)] w fun e w' => e = .returned (.tuple #[]) ∧ Bat B b bs w' ∧ Below B w w' := by
  rcases h with h | h
  · exact (bcheck_fresh b w h.cell0 h.shape h.frozen0).mono fun e w' ⟨e1, e2⟩ => by subst e2; exact ⟨e1, h.used _, (Below.refl B w).setCell (p := ⟨b, 0, none⟩) h.1 _⟩
  · exact (bcheck_used b w h.cell0).mono fun e w' ⟨e1, e2⟩ => by subst e2; exact ⟨e1, h, Below.refl B _⟩
theorem info5 : (Tryd.prog.info? 5).map (fun i => (i.zero, i.size, i.bytes)) = some (some (.int .u8 0), 1, 1) := by kernel_rfl
/-- What a builder's block reads as, and where its row lies. -/
theorem bat_open {B b : Nat} {bs : List Value} {w : World} (h : Bat B b bs w) : ∃ a c, B ≤ b ∧ w.cell? ⟨b, 1, none⟩ = some (.slice a bs.length c) ∧ w.frozen? ⟨b, 1, none⟩ = false ∧ w.heap[b]? = some (.cells #[.pointer (some ⟨b, 0, none⟩), .slice a bs.length c] 53 (0, 0)) ∧ w.ownsRow B 5 1 (.slice a bs.length c) bs.length bs ∧ some b ≠ (Value.slice a bs.length c).ownBlock ∧ b < w.heap.size := by
  have hlt := h.lt
  obtain ⟨hB, v, hbk, hown, hne⟩ := h
  obtain ⟨a, c, rfl⟩ := slice_form hown
  exact ⟨a, c, hB, by rw [Lib.cell_of_heap hbk]; rfl, Lib.frozen_of_heap hbk 1, hbk, hown, fun e => hne e.symm, hlt⟩
set_option maxHeartbeats 1000000 in
theorem wstr_any (B b : Nat) (bs : List Value) (s : ByteArray) (w : World) (h : Lib.IsBuilder 53 5 B b bs w) (hlen : bs.length + s.size ≤ 100000000) (hBw : B ≤ w.heap.size) :
    Calls Tryd.prog 26 #[.pointer (some ⟨b, 0, none⟩), .string s] w fun e w' => (∃ r, e = .returned r) ∧ Bat B b (bs ++ Lib.strCells s) w' ∧ Below B w w' := by
  obtain ⟨i0, hi, hz0, hz1, hz2⟩ := info_parts info5
  have HC := Lib.hid (bcheck_any B b bs w h)
  have HBw := Lib.hid hBw
  have hs : (s.size : Int) ≤ 100000000 := by omega
  clear h hBw
  go_enter Tryd.func26, Tryd.ntmps26
  go_wp2_with (first
    | (go_at_call 45; refine HC.out.mono ?_; rintro e w1 ⟨rfl, hA, hB⟩; obtain ⟨a, c, hb1, c1, f1, hbk, hown, hne, hlt⟩ := bat_open hA; have HBl := Lib.hid hB; have HO := Lib.hid hown; have HH := Lib.hid (And.intro hb1 (And.intro hbk (And.intro hne hlt))); clear hA hB hown hbk hne hlt HC)
    | (at_builtin; refine Lib.wpList_append_own_string _ rfl _ _ 51 9 rfl B 5 i0 Tryd.underlying51 Tryd.underlying9 hi hz0 hz1 hz2 _ _ _ rfl HO.out s rfl ?c3 ?c4 ?c5 ?_))
  case c3 => unfold maxLen; omega
  case c4 => omega
  case c5 => exact Nat.le_trans HBw.out HBl.out.size
  intro v' w2 hown' hgrow _
  obtain ⟨hb1, hbk, hne, hlt⟩ := HH.out
  have d1 := far_cell hgrow hne c1
  have g1 := far_frozen hgrow hne c1 f1
  have HK := Lib.hid ((hgrow.block b hlt hne).trans hbk)
  obtain ⟨a2, c2, rfl⟩ := slice_form hown'
  have HO2 := Lib.hid hown'
  have HB2 := Lib.hid ((below_growE HBl.out (Nat.le_refl B) (Nat.le_trans HBw.out HBl.out.size) HO.out hgrow).setCell (p := ⟨b, 1, none⟩) hb1 (.slice a2 (bs.length + s.size) c2))
  have hb1' := Lib.hid hb1
  clear hown' hgrow hbk HO HH hb1 HBl hne hlt c1 f1
  go_wp2
  go_ret2
  refine ⟨⟨_, rfl⟩, ?_, HB2.out⟩
  exact Lib.BuilderAt.put hb1'.out HK.out (bs' := bs ++ Lib.strCells s) (by rw [List.length_append, Lib.strCells_length]; exact HO2.out) (by decide)
set_option maxHeartbeats 1000000 in
theorem wbyte_any (B b : Nat) (bs : List Value) (z : Nat) (w : World) (h : Lib.IsBuilder 53 5 B b bs w) (hlen : bs.length ≤ 100000000) (hBw : B ≤ w.heap.size) :
    Calls Tryd.prog 28 #[.pointer (some ⟨b, 0, none⟩), .int .u8 (z : Int)] w fun e w' => (∃ r, e = .returned r) ∧ Bat B b (bs ++ [.int .u8 (z : Int)]) w' ∧ Below B w w' := by
  obtain ⟨i0, hi, hz0, hz1, hz2⟩ := info_parts info5
  have HC := Lib.hid (bcheck_any B b bs w h)
  have HBw := Lib.hid hBw
  clear h hBw
  go_enter Tryd.func28, Tryd.ntmps28
  go_wp2_with (first
    | (go_at_call 45; refine HC.out.mono ?_; rintro e w1 ⟨rfl, hA, hB⟩; obtain ⟨a, c, hb1, c1, f1, hbk, hown, hne, hlt⟩ := bat_open hA; have HBl := Lib.hid hB; have HO := Lib.hid hown; have HH := Lib.hid (And.intro hb1 (And.intro hbk (And.intro hne hlt))); clear hA hB hown hbk hne hlt HC)
    | (at_builtin; refine wpList_append_lies _ rfl _ _ 51 rfl B 5 i0 (.int .u8 0) 1 1 Tryd.underlying51 hi hz0 hz1 hz2 rfl (by decide) _ _ _ rfl (HO.out.alloc _) ⟨w1.heap.size, 0, none⟩ 1 1 [.int .u8 (z : Int)] rfl rfl ?c1 ?c2 (by omega) ?c3 ?c4 ?c5 _ rfl ?_))
  case c1 => exact World.news_of_block (heap_alloc_new w1 _)
  case c2 => intro u hu; simp at hu; subst hu; rfl
  case c3 => unfold maxLen; omega
  case c4 => omega
  case c5 => have := HBw.out; have := HBl.out.size; simp; omega
  intro gg cap w2 hown' hgrow _ _
  obtain ⟨hb1, hbk, hne, hlt⟩ := HH.out
  have ha := (Below.refl w1.heap.size w1).alloc (Nat.le_refl _) (.cells #[.int .u8 (z : Int)] 5)
  have d1 := far_cell hgrow hne (cell_on ha c1)
  have g1 := far_frozen hgrow hne (cell_on ha c1) (frozen_on ha c1 f1)
  have HK := Lib.hid ((hgrow.block b (Nat.lt_of_lt_of_le hlt ha.size) hne).trans ((ha.block b hlt).trans hbk))
  have HO2 := Lib.hid hown'
  have HB2 := Lib.hid ((below_growE (HBl.out.trans (ha.mono (Nat.le_trans HBw.out HBl.out.size))) (Nat.le_refl B) (Nat.le_trans (Nat.le_trans HBw.out HBl.out.size) ha.size) (HO.out.alloc _) hgrow).setCell (p := ⟨b, 1, none⟩) hb1 (.slice (some ⟨gg, 0, none⟩) (bs.length + 1) cap))
  have hb1' := Lib.hid hb1
  clear hown' hgrow hbk HO HH hb1 HBl hne hlt c1 f1 ha
  go_wp2
  go_ret
  refine ⟨⟨_, rfl⟩, ?_, HB2.out⟩
  exact Lib.BuilderAt.put hb1'.out HK.out (bs' := bs ++ [.int .u8 (z : Int)]) (by rw [List.length_append]; exact HO2.out) (by decide)
end Go.Proofs.YtlecidgfchaonaaDoor

namespace Go.Proofs.YtlecidgfchaonaaDoor
open Go.RowKit Go.Sort Go.Lib
attribute [local go_sem ↓] Go.wp_at_zero Go.wp_at_succ
theorem own_cells {w : World} {B gg cap n : Nat} {e : TypeId} {xs : List ByteArray} (h : w.ownsRow B e 1 (.slice (some ⟨gg, 0, none⟩) n cap) n (xs.map Value.string)) (hn : xs.length = n) : (∀ (j : Nat) x, xs[j]? = some x → w.cell? ⟨gg, 0 + j, none⟩ = some (.string x)) ∧ n ≤ cap ∧ gg < w.heap.size := by
  have hlt := (h.lt gg rfl).2
  subst hn
  obtain ⟨a, c, heq, hc, g⟩ := StrsAt.own h
  injection heq with e1 e2 e3
  subst e3
  refine ⟨fun j x hx => ?_, hc, hlt⟩
  obtain ⟨b, off, e4, hcell⟩ := g (by have := (List.getElem?_eq_some_iff.1 hx).1; omega)
  rw [← e1] at e4
  injection e4 with e5
  injection e5 with e6 e7
  subst e6 e7
  exact hcell j x hx
set_option maxHeartbeats 2000000 in
theorem pline_any (name : ByteArray) (ns : List Nat) (m : Nat) (hm : ns.length = m) (hm0 : 0 < m) (hm1 : m ≤ 3) (hns : ∀ n ∈ ns, n < 18446744073709551616) (J : ByteArray) (hJ : joinB (name :: digW ns) = J) (hJs : J.size ≤ 1000) (b4 c bb : Nat) (L : List UInt8) (hL : L.length ≤ 50000000) (w : World) (htab : Pow10 w)
    (hI : Lib.IsBuilder 53 5 bb bb (Lib.byteCells L) w) (hbb : bb < w.heap.size) (hc : ∀ (j : Nat) u, ns[j]? = some u → w.cell? ⟨b4, j, none⟩ = some (.int .u64 (u : Int))) :
    Calls Tryd.prog 25 #[.string name, .slice (some ⟨b4, 0, none⟩) m c, .pointer (some ⟨bb, 0, none⟩)] w fun e w' => e = .returned (.tuple #[]) ∧ Bat bb bb (Lib.byteCells (L ++ (J.data.toList ++ [10]))) w' ∧ Below bb w w' := by
  have hb4 : b4 < w.heap.size := World.block_lt_of_cell? w _ (hc 0 _ (List.getElem?_eq_getElem (by omega)))
  have HBA : Hid (Below w.heap.size w (w.alloc (.cells #[.string name] 9))) := Lib.hid ((Below.refl _ w).alloc (Nat.le_refl _) _)
  have HOA : Hid ((w.alloc (.cells #[.string name] 9)).ownsRow w.heap.size 9 1 (.slice (some ⟨w.heap.size, 0, none⟩) 1 1) 1 ([name].map Value.string)) := Lib.hid (owns_full w [.string name] w.heap.size 1 9 (Nat.le_refl _) rfl (by unfold maxLen; omega))
  have HA := Lib.hid (app_any ns m hm (by omega) hns b4 c w.heap.size 1 [name] rfl (by omega) (.slice (some ⟨w.heap.size, 0, none⟩) 1 1) _ HBA.out.size (size_pos htab) (pow10_below htab HBA.out (size_pos htab)) HOA.out (fun e => Nat.ne_of_lt hb4 (Option.some.inj e)) (fun j u hj => cell_on HBA.out (hc j u hj)))
  have HI := Lib.hid hI
  have hxl : (name :: digW ns).length = 1 + m := by simp [digW, hm]; omega
  have hJl : (Lib.join ((name :: digW ns).map (·.data.toList)) (⟨#[32]⟩ : ByteArray).data.toList).length ≤ 1000 := by
    have : J.data.toList.length ≤ 1000 := by rw [← Lib.size_eq]; exact hJs
    rw [← hJ] at this
    simpa [joinB] using this
  have HJn := Lib.hid (fun gg cap W (hcl : ∀ (j : Nat) x, (name :: digW ns)[j]? = some x → W.cell? ⟨gg, 0 + j, none⟩ = some (.string x)) (hg : gg < W.heap.size) (hcap : (name :: digW ns).length ≤ cap) => Tryd.strings_Join gg 0 cap (name :: digW ns) ⟨#[32]⟩ W hcl hg (by omega) hcap (by omega))
  have hres : (⟨(Lib.join ((name :: digW ns).map (·.data.toList)) (⟨#[32]⟩ : ByteArray).data.toList).toArray⟩ : ByteArray) = J := by rw [← hJ]; rfl
  rw [hxl, hres] at HJn
  have hLc : (Lib.byteCells L).length = L.length := Lib.byteCells_length L
  clear hc hJl hres hI hns htab
  go_enter Tryd.func25, Tryd.ntmps25
  go_wp2_with (first
    | (go_at_call 20; refine HA.out.mono ?_; rintro e w1 ⟨v1, rfl, hO, hG, hX⟩; obtain ⟨gg, cap, rfl, hx1, hx2⟩ := hO.form (by omega); have HO1 := Lib.hid hO; have HB1 := Lib.hid (below_growE HBA.out (Nat.le_refl _) HBA.out.size HOA.out hG); clear hO hG hX HA)
    | (go_at_call 27; obtain ⟨k1, k2, k3⟩ := own_cells HO1.out hxl; refine (HJn.out gg cap _ k1 k3 (by omega)).mono ?_; rintro e w2 ⟨rfl, hB⟩; have HB2 := Lib.hid (on_trans HB1.out hB); clear hB k1 k2 k3 HJn HO1 hx1 hx2)
    | (go_at_call 26; refine (wstr_any bb bb (Lib.byteCells L) J _ (is_on HI.out HB2.out) (by omega) (Nat.le_trans (Nat.le_of_lt hbb) HB2.out.size)).mono ?_; rintro e w3 ⟨⟨r3, rfl⟩, hA, hB⟩; have HA3 := Lib.hid hA; have HB3 := Lib.hid ((HB2.out.mono (Nat.le_of_lt hbb)).trans hB); clear hA hB HB2 HB1)
    | (go_at_call 28; refine (wbyte_any bb bb (Lib.byteCells L ++ Lib.strCells J) 10 _ (.inr HA3.out) (by rw [List.length_append, Lib.strCells_length]; omega) (Nat.le_trans (Nat.le_of_lt hbb) HB3.out.size)).mono ?_; rintro e w4 ⟨⟨r4, rfl⟩, hA, hB⟩; have HA4 := Lib.hid hA; have HB4 := Lib.hid (HB3.out.trans hB); clear hA hB HB3 HA3))
  go_end0
  refine ⟨rfl, ?_, HB4.out⟩
  have e : Lib.byteCells (L ++ (J.data.toList ++ [10])) = Lib.byteCells L ++ Lib.strCells J ++ [.int .u8 ((10 : Nat) : Int)] := by
    rw [Lib.byteCells_append, Lib.byteCells_append, Lib.strCells_eq, List.append_assoc]
    rfl
  rw [e]
  exact HA4.out
end Go.Proofs.YtlecidgfchaonaaDoor
