import Derived.Test.YtlecidgfchaonaaDoorGtxZi
import Derived.Test.YtlecidgfchaonaaDoorMM
import Derived.Test.YtlecidgfchaonaaDoorGtxZm
import Derived.Test.YtlecidgfchaonaaDoorTokC
import Derived.Test.YtlecidgfchaonaaDoorME
set_option linter.unusedVariables false
set_option linter.unusedSimpArgs false
namespace Go.Proofs.YtlecidgfchaonaaDoor
open Go.RowKit Go.Sort Go.Lib
attribute [local go_sem ↓] Go.wp_at_zero Go.wp_at_succ
theorem next_dg {l : List ByteArray} {k n : Nat} (p : Nat → Int) (hx : l[k]? = some (dg n)) (hn : n < 18446744073709551616) : nextF l k p = p n ∧ nextV l k = n := by
  obtain ⟨h1, h2⟩ := dg_parse n hn
  exact ⟨by rw [next_ok p hx h1, h2], by rw [nextV_at hx, h2]⟩
theorem dg_max (n : Nat) (hn : n < 18446744073709551616) : (dg n).size ≤ maxLen := Nat.le_trans (dg_size n hn) (by unfold maxLen; omega)
theorem head_words_ok (N m : Nat) (h1 : 1 ≤ N) (h2 : N ≤ 4096) (h3 : m ≤ 16384) : HeadGood [dg N, dg m] N m := fun R c D M0 a v w hr hw hd hDR => by
  have a0 := next_dg (l := [dg N, dg m]) (k := 0) (n := N) (limF 1 4096 2) rfl (by omega)
  have a1 := next_dg (l := [dg N, dg m]) (k := 1) (n := m) (limF 0 16384 5) rfl (by omega)
  have h := head_good [dg N, dg m] (by simp) (by intro x hx; simp at hx; rcases hx with rfl | rfl <;> exact dg_max _ (by omega)) R c D M0 a v (by rw [a0.1]; unfold limF; rw [if_neg (by omega)]) (by rw [a1.1]; unfold limF; rw [if_neg (by omega)]) w hr hw hd hDR
  rw [a0.2, a1.2] at h
  exact h
theorem edge_words_ok (hi M f t x : Nat) (hN : hi + 1 ≤ 4096) (hf : f ≤ hi) (ht : t ≤ hi) (hft : f ≠ t) (hx1 : 1 ≤ x) (hx2 : x ≤ 4294967296) : EdgeGood [dg f, dg t, dg x] 0 (hi + 1) M ⟨(f : Int), (t : Int), x⟩ := fun R c D base n es a v w hr hw hd hDR hn hnm hown hRv hDb hbw => by
  have a0 := next_dg (l := [dg f, dg t, dg x]) (k := 0) (n := f) (limF 0 hi 7) rfl (by omega)
  have a1 := next_dg (l := [dg f, dg t, dg x]) (k := 0 + 1) (n := t) (othF f 0 hi 7) rfl (by omega)
  have a2 := next_dg (l := [dg f, dg t, dg x]) (k := 0 + 2) (n := x) (limF 1 4294967296 2) rfl (by omega)
  have h := edge_good [dg f, dg t, dg x] (by simp) (by intro y hy; simp at hy; rcases hy with rfl | rfl | rfl <;> exact dg_max _ (by omega)) R 0 c D (hi + 1) hi M (Nat.zero_le _) a v rfl hN
    (by rw [a0.1]; unfold limF; rw [if_neg (by omega)]) (by rw [a0.2, a1.1]; unfold othF limF; rw [if_neg (by omega), if_neg (by omega)]) (by rw [a2.1]; unfold limF; rw [if_neg (by omega)]) w hr hw hd hDR base n es hn hnm hown hRv hDb hbw
  rw [a0.2, a1.2, a2.2] at h
  exact h
/-- A word behind the first: the reader that line makes. -/
theorem rest_at {w : World} {b off c n : Nat} {x : ByteArray} {l : List ByteArray} (h : ∀ (j : Nat) y, (x :: l)[j]? = some y → w.cell? ⟨b, off + j, none⟩ = some (.string y)) (hb : b < w.heap.size) {o : TypeId} :
    RdAt (w.alloc (.cells #[.slice (some ⟨b, off + 1, none⟩) n c, .int .i64 0] o)) w.heap.size (.slice (some ⟨b, off + 1, none⟩) n c) 0 ∧ WdAt (w.alloc (.cells #[.slice (some ⟨b, off + 1, none⟩) n c, .int .i64 0] o)) w.heap.size (some ⟨b, off + 1, none⟩) l := by
  have ha := (Below.refl w.heap.size w).alloc (Nat.le_refl _) (.cells #[.slice (some ⟨b, off + 1, none⟩) n c, .int .i64 0] o)
  refine ⟨⟨by simp, by simp, by simp⟩, fun _ => ⟨b, off + 1, rfl, by omega, fun j y hy => ?_⟩⟩
  have h1 := cell_on ha (h (j + 1) y (by simpa using hy))
  rw [show off + 1 + j = off + (j + 1) by omega]
  exact h1
theorem strs_open {w : World} {v : Value} {x : ByteArray} {l : List ByteArray} (h : StrsAt w v (x :: l)) {n : Nat} (hn : (x :: l).length = n) : ∃ b off c, v = .slice (some ⟨b, off, none⟩) n c ∧ n ≤ c ∧ b < w.heap.size ∧ w.cell? ⟨b, off, none⟩ = some (.string x) ∧ ∀ (j : Nat) y, (x :: l)[j]? = some y → w.cell? ⟨b, off + j, none⟩ = some (.string y) := by
  obtain ⟨a, c, rfl, hc, g⟩ := h
  obtain ⟨b, off, rfl, hcell⟩ := g (by simp)
  subst hn
  have h0 := hcell 0 x rfl
  exact ⟨b, off, c, rfl, hc, World.block_lt_of_cell? w _ h0, h0, hcell⟩
theorem kept_line {w W w' : World} {R D : Nat} (hB : Below w.heap.size w W) (hK : Kept R D W.heap.size W w') (hR : w.heap.size ≤ R) : Kept w.heap.size D w.heap.size w w' := fun q h1 h2 _ => (hK q (Nat.lt_of_lt_of_le h1 hB.size) h2 (by omega)).trans (hB.block q h1)
set_option maxHeartbeats 2000000 in
theorem dline_head (N m : Nat) (h1 : 1 ≤ N) (h2 : N ≤ 4096) (h3 : m ≤ 16384) (D : Nat) (w : World) (hd : DrAt w D 0 (.slice none 0 0) 0) :
    Calls Tryd.prog 36 #[.pointer (some ⟨D, 0, none⟩), .string (joinB (headW N m))] w fun e w' => e = .returned (.int .i64 0) ∧ DrAt w' D N (.slice none 0 0) m ∧ Kept w.heap.size D w.heap.size w w' ∧ Below D w w' := by
  have hDw : D < w.heap.size := World.block_lt_of_cell? w _ hd.1
  have hsz : (joinB (headW N m)).size ≤ 65536 := by
    unfold headW
    rw [join3_size]
    have g1 := dg_size N (by omega)
    have g2 := dg_size m (by omega)
    have : (⟨#[103, 114, 97, 112, 104]⟩ : ByteArray).size = 5 := rfl
    omega
  have HWd := Lib.hid (fun W => twords_ok (joinB (headW N m)) hsz W)
  obtain ⟨r1, r2⟩ := head_read N m (by omega) (by omega)
  rw [r1, r2] at HWd
  have hHd := head_words_ok N m h1 h2 h3
  unfold HeadGood nextVal at hHd
  rw [show [dg N, dg m].length = 2 from rfl] at hHd
  have HHd := Lib.hid hHd
  clear hHd
  have HD := Lib.hid hd
  have HWh : Hid (∀ W, DrAt W D 0 (.slice none 0 0) 0 → Calls Tryd.prog 32 #[.pointer (some ⟨D, 0, none⟩)] W fun e w' => e = .returned (.bool false) ∧ Below W.heap.size W w') := Lib.hid fun W h => whole_any D 0 0 0 0 none W h
  have c0 := hd.1
  obtain ⟨S, hS⟩ : ∃ S, joinB (headW N m) = S := ⟨_, rfl⟩
  rw [hS] at HWd ⊢
  rw [show headW N m = [⟨#[103, 114, 97, 112, 104]⟩, dg N, dg m] from rfl] at HWd
  have hmf : ∀ (fn : Fn) (first cap : Array Value) (w : World), (Instr.makeFunc fn first cap).run Tryd.prog w = .ok (.func fn first cap) w := fun _ _ _ _ => rfl
  clear hd r1 r2 hS hsz
  go_enter Tryd.func36, Tryd.ntmps36
  go_wp2_with (first
    | (go_at_call 54; refine (HWd.out _).mono ?_; rintro e w1 ⟨v1, rfl, hS1, hB⟩; obtain ⟨b1, off, k1, rfl, hk1, hb1, x0, hc⟩ := strs_open hS1 (n := 3) rfl; have HB1 := Lib.hid hB; have HC1 := Lib.hid hc; have HK1 := Lib.hid hb1; have hk2 : (3 : Int) ≤ (k1 : Int) := (by omega); clear hB hc hS1 hb1 HWd)
    | (go_at_call 32; refine (HWh.out _ (HD.out.on HB1.out)).mono ?_; rintro e w2 ⟨rfl, hB⟩; have x1 := cell_on hB x0; have HB2 := Lib.hid (on_trans HB1.out hB); have HC2 : Hid (∀ (j : Nat) y, [(⟨#[103, 114, 97, 112, 104]⟩ : ByteArray), dg N, dg m][j]? = some y → w2.cell? ⟨b1, off + j, none⟩ = some (.string y)) := Lib.hid (fun j y hy => cell_on hB (HC1.out j y hy)); have HK2 := Lib.hid (Nat.lt_of_lt_of_le HK1.out hB.size); clear hB HC1 HK1 x0 HWh)
    | (go_at_call 30; obtain ⟨q1, q2⟩ := rest_at (n := 2) (c := k1 - 1) (o := 63) HC2.out HK2.out; refine (HHd.out w2.heap.size (k1 - 1) D 0 (some ⟨b1, off + 1, none⟩) (.slice none 0 0) _ q1 q2 (HD.out.on (HB2.out.alloc HB2.out.size _)) (Nat.ne_of_lt (Nat.lt_of_lt_of_le hDw HB2.out.size))).mono ?_; rintro e w3 ⟨rfl, _, hD, hK, hB⟩; have HD3 := Lib.hid hD; have HK3 := Lib.hid hK; have HB3 := Lib.hid hB; clear q1 q2 hD hK hB HHd))
  go_ret
  have hz := HB2.out.size
  have hW := HB2.out.alloc hz (.cells #[.slice (some ⟨b1, off + 1, none⟩) 2 (k1 - 1), .int .i64 0] 63)
  exact ⟨rfl, HD3.out, kept_line hW HK3.out hz, (hW.mono (Nat.le_of_lt hDw)).trans (HB3.out D (by simp; omega) (by omega) (Nat.le_refl _))⟩
theorem kept_line2 {w W w' : World} {R D base : Nat} (hB : Below w.heap.size w W) (hK : Kept R D base W w') (hb : base ≤ w.heap.size) (hR : w.heap.size ≤ R) : Kept w.heap.size D base w w' := fun q h1 h2 _ => (hK q h1 h2 (by omega)).trans (hB.block q (by omega))
set_option maxHeartbeats 2000000 in
theorem dline_edge (hi M f t x n base D : Nat) (es : List Ed) (hn : es.length = n) (hnM : n < M) (hM : M ≤ 16384) (hN : hi + 1 ≤ 4096) (hf : f ≤ hi) (ht : t ≤ hi) (hft : f ≠ t) (hx1 : 1 ≤ x) (hx2 : x ≤ 4294967296) (v : Value) (w : World) (hd : DrAt w D (hi + 1) v M) (hown : w.ownsRow base 43 3 v n (flat es)) (hDb : D < base) (hbw : base ≤ w.heap.size) :
    Calls Tryd.prog 36 #[.pointer (some ⟨D, 0, none⟩), .string (joinB (lineW ⟨(f : Int), (t : Int), x⟩))] w fun e w' => ∃ v', e = .returned (.int .i64 0) ∧ DrAt w' D (hi + 1) v' M ∧ w'.ownsRow base 43 3 v' (n + 1) (flat (es ++ [⟨(f : Int), (t : Int), x⟩])) ∧ base ≤ w'.heap.size ∧ Kept w.heap.size D base w w' ∧ Below D w w' := by
  have hDw : D < w.heap.size := World.block_lt_of_cell? w _ hd.1
  have hsz : (joinB (lineW ⟨(f : Int), (t : Int), x⟩)).size ≤ 65536 := by
    have := (line_J f t x (by omega) (by omega) (by omega)).1
    have e : (⟨#[101]⟩ : ByteArray) :: digW [f, t, x] = lineW ⟨(f : Int), (t : Int), x⟩ := by simp [digW, lineW, edW]
    rw [e] at this
    omega
  have HWd := Lib.hid (fun W => twords_ok (joinB (lineW ⟨(f : Int), (t : Int), x⟩)) hsz W)
  obtain ⟨r1, r2⟩ := line_read ⟨(f : Int), (t : Int), x⟩ (by simp only [Int.toNat_natCast]; omega) (by simp only [Int.toNat_natCast]; omega) (by simp only; omega)
  rw [r1, r2] at HWd
  have hEd := edge_words_ok hi M f t x hN hf ht hft hx1 hx2
  unfold EdgeGood nextVal at hEd
  rw [show [dg f, dg t, dg x].length = 3 from rfl] at hEd
  have HEd := Lib.hid hEd
  obtain ⟨av, cv, rfl⟩ := slice_form hown
  have HO := Lib.hid hown
  have HD := Lib.hid hd
  have HWh : Hid (∀ W, DrAt W D (hi + 1) (.slice av n cv) M → Calls Tryd.prog 32 #[.pointer (some ⟨D, 0, none⟩)] W fun e w' => e = .returned (.bool false) ∧ Below W.heap.size W w') := Lib.hid fun W h => by
    have := whole_any D (hi + 1) M n cv av W h
    rw [decide_eq_false (show ¬ n = M by omega), Bool.and_false] at this
    exact this
  have c0 := hd.1
  obtain ⟨S, hS⟩ : ∃ S, joinB (lineW ⟨(f : Int), (t : Int), x⟩) = S := ⟨_, rfl⟩
  rw [hS] at HWd ⊢
  rw [show lineW ⟨(f : Int), (t : Int), x⟩ = [⟨#[101]⟩, dg f, dg t, dg x] from rfl] at HWd
  obtain ⟨N, hNe⟩ : ∃ N, hi + 1 = N := ⟨_, rfl⟩
  rw [hNe] at HD HWh HEd c0 ⊢
  have q1 : decide ((0 : Int) < (N : Int)) = true := decide_eq_true (by omega)
  have q2 : decide (0 < N) = true := decide_eq_true (by omega)
  have hmf : ∀ (fn : Fn) (first cap : Array Value) (w : World), (Instr.makeFunc fn first cap).run Tryd.prog w = .ok (.func fn first cap) w := fun _ _ _ _ => rfl
  clear hd r1 r2 hS hsz hEd hown hN hf ht hft hx1 hx2 hNe
  go_enter Tryd.func36, Tryd.ntmps36
  go_wp2_with (first
    | (go_at_call 54; refine (HWd.out _).mono ?_; rintro e w1 ⟨v1, rfl, hS1, hB⟩; obtain ⟨b1, off, k1, rfl, hk1, hb1, x0, hc⟩ := strs_open hS1 (n := 4) rfl; have HB1 := Lib.hid hB; have HC1 := Lib.hid hc; have HK1 := Lib.hid hb1; have hk2 : (4 : Int) ≤ (k1 : Int) := (by omega); clear hB hc hS1 hb1 HWd)
    | (go_at_call 32; refine (HWh.out _ (HD.out.on HB1.out)).mono ?_; rintro e w2 ⟨rfl, hB⟩; have x1 := cell_on hB x0; have HB2 := Lib.hid (on_trans HB1.out hB); have HC2 : Hid (∀ (j : Nat) y, [(⟨#[101]⟩ : ByteArray), dg f, dg t, dg x][j]? = some y → w2.cell? ⟨b1, off + j, none⟩ = some (.string y)) := Lib.hid (fun j y hy => cell_on hB (HC1.out j y hy)); have HK2 := Lib.hid (Nat.lt_of_lt_of_le HK1.out hB.size); clear hB HC1 HK1 x0 HWh)
    | (go_at_call 33; obtain ⟨q1, q2⟩ := rest_at (n := 3) (c := k1 - 1) (o := 63) HC2.out HK2.out; refine (HEd.out w2.heap.size (k1 - 1) D base n es (some ⟨b1, off + 1, none⟩) (.slice av n cv) _ q1 q2 (HD.out.on (HB2.out.alloc HB2.out.size _)) (Nat.ne_of_lt (Nat.lt_of_lt_of_le hDw HB2.out.size)) hn (by omega) (owns_on HO.out (HB2.out.alloc HB2.out.size _)) (own_ne_ge HO.out HB2.out.size) hDb (Nat.le_trans hbw (HB2.out.alloc HB2.out.size _).size)).mono ?_; rintro e w3 ⟨v3, rfl, _, hD, hO, hS, hK, hB⟩; have HD3 := Lib.hid hD; have HO3 := Lib.hid hO; have HS3 := Lib.hid hS; have HK3 := Lib.hid hK; have HB3 := Lib.hid hB; clear q1 q2 hD hO hS hK hB HEd))
  go_ret
  have hz := HB2.out.size
  have hW := HB2.out.alloc hz (.cells #[.slice (some ⟨b1, off + 1, none⟩) 3 (k1 - 1), .int .i64 0] 63)
  exact ⟨v3, rfl, HD3.out, HO3.out, HS3.out, kept_line2 hW HK3.out hbw hz, (hW.mono (Nat.le_of_lt hDw)).trans (HB3.out D (by simp; omega) (by omega) (Nat.le_refl _) (Nat.le_of_lt hDb))⟩
end Go.Proofs.YtlecidgfchaonaaDoor

namespace Go.Proofs.YtlecidgfchaonaaDoor
open Go.RowKit Go.Sort Go.Lib
attribute [local go_sem ↓] Go.wp_at_zero Go.wp_at_succ
/-- How long a graph's text is at most. -/
theorem text_len {N m : Nat} (hN : N < 18446744073709551616) (hm : m < 18446744073709551616) : ∀ (l : List Ed) (t : ByteArray) (b : Nat), (∀ e ∈ l, 0 ≤ e.f ∧ e.f ≤ 4096 ∧ 0 ≤ e.t ∧ e.t ≤ 4096 ∧ e.w ≤ 4294967296) → t.data.toList.length ≤ b → (l.foldl addE t).data.toList.length ≤ b + 101 * l.length
  | [], t, b, _, h => by simpa using h
  | ⟨f, g, x⟩ :: l, t, b, hl, h => by
    have h1 := hl ⟨f, g, x⟩ (by simp)
    simp only at h1
    obtain ⟨F, rfl⟩ : ∃ F : Nat, f = F := ⟨f.toNat, by omega⟩
    obtain ⟨G, rfl⟩ : ∃ G : Nat, g = G := ⟨g.toNat, by omega⟩
    have hJ := line_J F G x (by omega) (by omega) (by omega)
    rw [List.foldl_cons]
    have ih := text_len hN hm l (addE t ⟨(F : Int), (G : Int), x⟩) (b + 101) (fun e he => hl e (by simp [he])) (by
      have h2 := hJ.1
      rw [Lib.size_eq] at h2
      rw [hJ.2, List.length_append, List.length_append]
      simp only [List.length_cons, List.length_nil]
      omega)
    simp only [List.length_cons]
    omega
theorem text_small {N : Nat} {es : List Ed} (hr : rightF N es = 0) (hl : es.length ≤ 300) : (textG N es).size ≤ 4000000 := by
  obtain ⟨r1, r2, r3, r4⟩ := right_ends hr
  have hJ := head_J N es.length (by omega) (by omega)
  have := text_len (N := N) (m := es.length) (by omega) (by omega) es (headB N es.length) 1001 (fun e he => by have := right_edges hr e he; omega) (by
    have h2 := hJ.1
    rw [Lib.size_eq] at h2
    rw [hJ.2, List.nil_append, List.length_append]
    simp only [List.length_cons, List.length_nil]
    omega)
  rw [Lib.size_eq]
  unfold textG
  omega
/-- A text's first byte. -/
theorem first_of {t : ByteArray} {c : UInt8} {r : List UInt8} (hd : t.data.toList = c :: r) : ∃ h : 0 < t.size, t[0] = c := by
  have hz : 0 < t.size := by rw [Lib.size_eq, hd]; simp
  refine ⟨hz, ?_⟩
  have h1 : t.data.toList[0]? = some t[0] := List.getElem?_eq_getElem (by rw [← Lib.size_eq]; exact hz)
  rw [hd] at h1
  exact (Option.some.inj h1).symm
theorem head_first (N m : Nat) : ∃ h : 0 < (joinB (headW N m)).size, (joinB (headW N m))[0] = 103 := by
  have hd : (joinB (headW N m)).data.toList = 103 :: (joinB (headW N m)).data.toList.tail := by unfold headW; rw [join3]; simp
  exact first_of hd
theorem line_first (e : Ed) : ∃ h : 0 < (joinB (lineW e)).size, (joinB (lineW e))[0] = 101 := by
  have hd : (joinB (lineW e)).data.toList = 101 :: (joinB (lineW e)).data.toList.tail := by unfold lineW edW; rw [join4]; simp
  exact first_of hd
/-- Read's two variables. -/
theorem start_read (w : World) : ResAt ((w.alloc (.cells #[.int .i64 0, .slice none 0 0] 24)).alloc (.cells #[.int .i64 0, .slice none 0 0, .int .i64 0] 65)) w.heap.size ∧ DrAt ((w.alloc (.cells #[.int .i64 0, .slice none 0 0] 24)).alloc (.cells #[.int .i64 0, .slice none 0 0, .int .i64 0] 65)) (w.heap.size + 1) 0 (.slice none 0 0) 0 ∧ Below w.heap.size w ((w.alloc (.cells #[.int .i64 0, .slice none 0 0] 24)).alloc (.cells #[.int .i64 0, .slice none 0 0, .int .i64 0] 65)) ∧ ((w.alloc (.cells #[.int .i64 0, .slice none 0 0] 24)).alloc (.cells #[.int .i64 0, .slice none 0 0, .int .i64 0] 65)).heap[w.heap.size + 1]? = some (.cells #[.int .i64 0, .slice none 0 0, .int .i64 0] 65) := by
  obtain ⟨w1, h1⟩ : ∃ w1, w.alloc (.cells #[.int .i64 0, .slice none 0 0] 24) = w1 := ⟨_, rfl⟩
  have s1 : w1.heap.size = w.heap.size + 1 := by rw [← h1]; simp
  have r0 : w1.cell? ⟨w.heap.size, 0, none⟩ = some (.int .i64 0) ∧ w1.cell? ⟨w.heap.size, 1, none⟩ = some (.slice none 0 0) ∧ w1.frozen? ⟨w.heap.size, 0, none⟩ = false ∧ w1.frozen? ⟨w.heap.size, 1, none⟩ = false := by rw [← h1]; simp
  have b1 := (Below.refl w.heap.size w).alloc (Nat.le_refl _) (.cells #[.int .i64 0, .slice none 0 0] 24)
  rw [h1] at b1 ⊢
  have b2 := (Below.refl w1.heap.size w1).alloc (Nat.le_refl _) (.cells #[.int .i64 0, .slice none 0 0, .int .i64 0] 65)
  have hn := heap_alloc_new w1 (.cells #[.int .i64 0, .slice none 0 0, .int .i64 0] 65)
  rw [← s1]
  exact ⟨⟨⟨_, cell_on b2 r0.1⟩, ⟨_, cell_on b2 r0.2.1⟩, frozen_on b2 r0.1 r0.2.2.1, frozen_on b2 r0.2.1 r0.2.2.2⟩, ⟨by simp, by simp, by simp, by simp, by simp, by simp⟩, on_trans b1 b2, hn⟩
/-- No string lies in the draft's block. -/
theorem not_draft {w : World} {D b off : Nat} {x : ByteArray} (hh : w.heap[D]? = some (.cells #[.int .i64 0, .slice none 0 0, .int .i64 0] 65)) (hx : w.cell? ⟨b, off, none⟩ = some (.string x)) : b ≠ D := fun e => by
  subst e
  rw [Lib.cell_of_heap hh] at hx
  match off, hx with
  | 0, hx => simp at hx
  | 1, hx => simp at hx
  | 2, hx => simp at hx
  | k + 3, hx => simp at hx
theorem cell_heap {w w' : World} {b o : Nat} (h : w'.heap[b]? = w.heap[b]?) : w'.cell? ⟨b, o, none⟩ = w.cell? ⟨b, o, none⟩ := by simp [World.cell?, h]
/-- What the draft is behind k lines. -/
def RdSt (w : World) (N m D base : Nat) (es : List Ed) (k : Nat) : Prop := (k = 0 ∧ DrAt w D 0 (.slice none 0 0) 0) ∨ (∃ j v, k = j + 1 ∧ DrAt w D N v m ∧ w.ownsRow base 43 3 v j (flat (es.take j)))
set_option maxHeartbeats 4000000 in
theorem pread6_some (N : Nat) (es : List Ed) (hr : rightF N es = 0) (hl : es.length ≤ 300) (w : World) :
    Calls Tryd.prog 17 #[.string (textG N es)] w fun e w' => ∃ v', e = .returned (.tuple #[.agg #[.int .i64 (N : Int), v'], .int .i64 0, .int .i64 0]) ∧ EdgesAt w' v' es ∧ Below w.heap.size w w' := by
  obtain ⟨r1, r2, r3, r4⟩ := right_ends hr
  have HL := Lib.hid (fun W => tlines_any (textG N es) (text_small hr hl) W)
  rw [text_lines] at HL
  obtain ⟨m, hm⟩ : ∃ m, es.length = m := ⟨_, rfl⟩
  have hm1 : (m : Int) ≤ 300 := by omega
  obtain ⟨HRs, HDr, HB0, HH⟩ := start_read w
  have HRs := Lib.hid HRs
  have HDr := Lib.hid HDr
  have HB0 := Lib.hid HB0
  have HH := Lib.hid HH
  have hlen : (joinB (headW N es.length) :: es.map fun e => joinB (lineW e)).length = m + 1 := by simp [hm]
  obtain ⟨S, hS⟩ : ∃ S, textG N es = S := ⟨_, rfl⟩
  rw [hS] at HL ⊢
  unfold linesG at HL
  clear hS
  go_enter Tryd.func17, Tryd.ntmps17
  go_wp2_with (go_at_call 35; refine (HL.out _).mono ?_; rintro e w1 ⟨v1, rfl, hS1, hB⟩; obtain ⟨bl, off, c1, rfl, hc1, hbl, x0, hc⟩ := strs_open hS1 hlen; have HB1 := Lib.hid hB; have HX := Lib.hid hc; have HBl := Lib.hid hbl; have HX0 := Lib.hid x0; clear hB hS1 hc hbl x0 HL)
  have hz1 := HB1.out.size
  simp only [World.size_alloc] at hz1
  have HDn : Hid (bl ≠ w.heap.size + 1) := Lib.hid (not_draft ((HB1.out.block (w.heap.size + 1) (by simp)).trans HH.out) HX0.out)
  have HSt1 : Hid (RdSt w1 N m (w.heap.size + 1) w1.heap.size es 0) := Lib.hid (.inl ⟨rfl, HDr.out.on HB1.out⟩)
  have HRs1 := Lib.hid (HRs.out.lt HB1.out (by simp; omega))
  have HBw1 := Lib.hid (on_trans HB0.out HB1.out)
  have HZ1 : Hid (w1.heap.size ≤ w1.heap.size) := Lib.hid (Nat.le_refl _)
  clear HX0 HRs HDr HH HB0
  go_loopw [18] (fun i wr => ∃ k : Nat, k ≤ m + 1 ∧ i = .int .i64 k ∧ Hid (RdSt wr N m (w.heap.size + 1) w1.heap.size es k) ∧ Hid (∀ (j : Nat) y, (joinB (headW N es.length) :: es.map fun e => joinB (lineW e))[j]? = some y → wr.cell? ⟨bl, off + j, none⟩ = some (.string y)) ∧ Hid (Below w.heap.size w wr) ∧ Hid (w1.heap.size ≤ wr.heap.size) ∧ Hid (ResAt wr w.heap.size)) (fun i _ => m + 1 - (RowKit.intOf i).toNat)
  case atStart => exact ⟨0, by omega, rfl, HSt1, HX, HBw1, HZ1, HRs1⟩
  case round =>
    obtain ⟨k, hk, rfl, HSt, HX, HB, HZ, HRs⟩ := hrel
    by_cases hkm : k < m + 1
    · have hi0 : (0 : Int) ≤ (k : Int) := Int.natCast_nonneg _
      have hi1 : (k : Int) < (m : Int) + 1 := by omega
      rcases HSt.out with ⟨rfl, hd⟩ | ⟨j, v, rfl, hd, ho⟩
      · have x0 : wr.cell? ⟨bl, off, none⟩ = some (.string (joinB (headW N es.length))) := HX.out 0 _ rfl
        obtain ⟨y0, y1⟩ := head_first N m
        have HLn := Lib.hid (dline_head N m (by omega) (by omega) (by omega) (w.heap.size + 1) wr hd)
        rw [hm] at x0
        obtain ⟨Y, hY⟩ : ∃ Y, joinB (headW N m) = Y := ⟨_, rfl⟩
        simp only [hY] at x0 y0 y1 HLn
        have y2 : ((Y[0].toNat : Int) == 35) = false := by rw [y1]; rfl
        have hE : Y.toList.isEmpty = false := by
          have := ne_empty Y
          rw [decide_eq_true y0] at this
          simpa using this
        clear hd hY y1 HSt1 HRs1 HBw1 HSt
        go_wp2_with (go_at_call 36; refine HLn.out.mono ?_; rintro e w2 ⟨rfl, hD, hK, hB⟩; have HD2 := Lib.hid hD; have HK2 := Lib.hid hK; have HB2 := Lib.hid hB; clear hD hK hB HLn)
        have hzz := HZ.out
        have hbb := HBl.out
        have HSt2 : Hid (RdSt w2 N m (w.heap.size + 1) w1.heap.size es 1) := Lib.hid (.inr ⟨0, .slice none 0 0, rfl, HD2.out, World.ownsRow_nil _ _ _ _⟩)
        have HX2 : Hid (∀ (j : Nat) y, (joinB (headW N es.length) :: es.map fun e => joinB (lineW e))[j]? = some y → w2.cell? ⟨bl, off + j, none⟩ = some (.string y)) := Lib.hid fun j y hy => (cell_heap (HK2.out bl (by omega) HDn.out (by omega))).trans (HX.out j y hy)
        have HBw2 := Lib.hid (HB.out.trans (HB2.out.mono (Nat.le_succ _)))
        have HZ2 := Lib.hid (Nat.le_trans HZ.out HB2.out.size)
        have HRs2 := Lib.hid (HRs.out.lt HB2.out (Nat.lt_succ_self _))
        clear HX HB HZ HRs HD2 HK2 HB2 hzz hbb x0 y2 hE
        go_roundw
        case rel => exact ⟨1, by omega, by go_num, HSt2, HX2, HBw2, HZ2, HRs2⟩
        case measure => simp [RowKit.intOf] <;> omega
      · have hj : j < m := by omega
        have he0 : es[j]? = some (es[j]'(by omega)) := List.getElem?_eq_getElem (by omega)
        obtain ⟨⟨f, t, x⟩, he⟩ : ∃ e, es[j]'(by omega) = e := ⟨_, rfl⟩
        rw [he] at he0
        have hq := r4 ⟨f, t, x⟩ (he ▸ List.getElem_mem _)
        simp only at hq
        obtain ⟨n1, n2, n3, n4, n5, n6, n7⟩ := hq
        obtain ⟨F, rfl⟩ : ∃ F : Nat, f = F := ⟨f.toNat, by omega⟩
        obtain ⟨T, rfl⟩ : ∃ T : Nat, t = T := ⟨t.toNat, by omega⟩
        have x0 : wr.cell? ⟨bl, off + (j + 1), none⟩ = some (.string (joinB (lineW ⟨(F : Int), (T : Int), x⟩))) := HX.out (j + 1) _ (by rw [List.getElem?_cons_succ, List.getElem?_map, he0]; rfl)
        obtain ⟨y0, y1⟩ := line_first ⟨(F : Int), (T : Int), x⟩
        obtain ⟨hi, hh⟩ : ∃ hi, N = hi + 1 := ⟨N - 1, by omega⟩
        rw [hh] at hd
        have hLn := dline_edge hi m F T x j w1.heap.size (w.heap.size + 1) (es.take j) (by rw [List.length_take]; omega) hj (by omega) (by omega) (by omega) (by omega) (by omega) (by omega) (by omega) v wr hd ho (by omega) HZ.out
        rw [← hh] at hLn
        have HLn := Lib.hid hLn
        obtain ⟨Y, hY⟩ : ∃ Y, joinB (lineW ⟨(F : Int), (T : Int), x⟩) = Y := ⟨_, rfl⟩
        simp only [hY] at x0 y0 y1 HLn
        have y2 : ((Y[0].toNat : Int) == 35) = false := by rw [y1]; rfl
        have hE : Y.toList.isEmpty = false := by
          have := ne_empty Y
          rw [decide_eq_true y0] at this
          simpa using this
        have HTk : Hid (es.take j ++ [⟨(F : Int), (T : Int), x⟩] = es.take (j + 1)) := Lib.hid (by rw [List.take_succ_eq_append_getElem (by omega), he])
        clear hd ho hY y1 HSt1 HRs1 HBw1 HSt hLn he he0 n1 n2 n3 n4 n5 n6 n7 hh
        go_wp2_with (go_at_call 36; refine HLn.out.mono ?_; rintro e w2 ⟨v2, rfl, hD, hO, hS, hK, hB⟩; have HD2 := Lib.hid hD; have HO2 := Lib.hid hO; have HS2 := Lib.hid hS; have HK2 := Lib.hid hK; have HB2 := Lib.hid hB; clear hD hO hS hK hB HLn)
        have hzz := HZ.out
        have hbb := HBl.out
        have HSt2 : Hid (RdSt w2 N m (w.heap.size + 1) w1.heap.size es (j + 1 + 1)) := Lib.hid (.inr ⟨j + 1, v2, rfl, HD2.out, by rw [← HTk.out]; exact HO2.out⟩)
        have HX2 : Hid (∀ (j : Nat) y, (joinB (headW N es.length) :: es.map fun e => joinB (lineW e))[j]? = some y → w2.cell? ⟨bl, off + j, none⟩ = some (.string y)) := Lib.hid fun j y hy => (cell_heap (HK2.out bl (by omega) HDn.out (by omega))).trans (HX.out j y hy)
        have HBw2 := Lib.hid (HB.out.trans (HB2.out.mono (Nat.le_succ _)))
        have HRs2 := Lib.hid (HRs.out.lt HB2.out (Nat.lt_succ_self _))
        clear HX HB HZ HRs HD2 HK2 HB2 HO2 hzz hbb x0 y2 hE
        go_roundw
        case rel => exact ⟨j + 1 + 1, by omega, by go_num, HSt2, HX2, HBw2, HS2, HRs2⟩
        case measure => simp [RowKit.intOf] <;> omega
    · obtain rfl : k = m + 1 := by omega
      rcases HSt.out with ⟨h, _⟩ | ⟨j, v, hj, hd, ho⟩
      · omega
      · obtain rfl : j = m := by omega
        obtain ⟨av, cv, rfl⟩ := slice_form ho
        have hWh := whole_any (w.heap.size + 1) N j j cv av wr hd
        rw [decide_eq_true (show 0 < N by omega), decide_eq_true (show j = j from rfl), Bool.and_self] at hWh
        have HWh := Lib.hid hWh
        have HD := Lib.hid hd
        have HE : Hid (wr.ownsRow w1.heap.size 43 3 (.slice av j cv) es.length (flat es)) := Lib.hid (by rw [List.take_of_length_le (by omega)] at ho; rw [hm]; exact ho)
        clear hd ho hWh HSt1 HRs1 HBw1 HSt HX
        go_wp2_with (go_at_call 32; refine HWh.out.mono ?_; rintro e w2 ⟨rfl, hB⟩; obtain ⟨d0, d1, d2, _, _, _⟩ := HD.out.on hB; obtain ⟨⟨x, x0⟩, ⟨y, x1⟩, x2, x3⟩ := HRs.out.lt (B := wr.heap.size) hB (by have := HZ.out; omega); have HB2 := Lib.hid hB; clear hB HWh)
        have h2 := set2_cells x0 x1 (.int .i64 (N : Int)) (.slice av j cv)
        have hO2 := owns_on HE.out HB2.out
        have hzw : w.heap.size < w1.heap.size := by omega
        refine bodyPost_ret_by (resGTT rfl _ rfl h2.1 h2.2) rfl ⟨.slice av j cv, rfl, edges_own (owns_set (owns_set hO2 _ hzw) _ hzw), ((HB.out.trans (HB2.out.mono (by have := HZ.out; omega))).setCell (Nat.le_refl _) _).setCell (Nat.le_refl _) _⟩
end Go.Proofs.YtlecidgfchaonaaDoor

namespace Go.Proofs.YtlecidgfchaonaaDoor
open Go.RowKit
/-- WHAT THE LANDED PACKAGE GTEXT ANSWERS. -/
theorem gtspec : GtSpec where
  words n v es W hl h ht := pwords6_any n W hl h ht
  print n v es W hl h ht := pprint6_any n W hl h ht
  parse v l W hl hz h _ := pparse6_any hl hz W h
  read N es W hr hl _ := pread6_some N es hr hl W
end Go.Proofs.YtlecidgfchaonaaDoor
