import Derived.Test.YtlecidgfchaonaaDoorGtxF
import Derived.Deep.RegionHeld3
set_option linter.unusedVariables false
set_option linter.unusedSimpArgs false
namespace Go.Proofs.YtlecidgfchaonaaDoor
open Go.RowKit
attribute [local go_sem ↓] Go.wp_at_zero Go.wp_at_succ
/-- An edge's words; a graph's. -/
def edW (e : Ed) : List ByteArray := [dg e.f.toNat, dg e.t.toNat, dg e.w]
def wordsG (N : Nat) (es : List Ed) : List ByteArray := dg N :: dg es.length :: es.flatMap edW
def gwordsF (n : Int) (es : List Ed) : Int := if rightF n es = 0 then (if 16384 < 2 + 3 * es.length then 5 else 0) else 1
def gwordsV (n : Int) (es : List Ed) : List ByteArray := if gwordsF n es = 0 then wordsG n.toNat es else []
theorem wordsG_len (N : Nat) (es : List Ed) : (wordsG N es).length = 2 + 3 * es.length := by
  have h : ∀ l : List Ed, (l.flatMap edW).length = 3 * l.length := by
    intro l
    induction l with
    | nil => rfl
    | cons e l ih => rw [List.flatMap_cons, List.length_append, ih]; simp [edW]; omega
  simp [wordsG, h]; omega
/-- The words of the nodes, the number of edges, and the first k edges. -/
def wordsK (N m : Nat) (es : List Ed) (k : Nat) : List ByteArray := dg N :: dg m :: (es.take k).flatMap edW
theorem wordsK_len {N m : Nat} {es : List Ed} {k : Nat} (h : k ≤ es.length) : (wordsK N m es k).length = 2 + 3 * k := by
  have := wordsG_len N (es.take k)
  unfold wordsG at this
  simp only [List.length_cons, List.length_take] at this
  unfold wordsK
  simp only [List.length_cons]
  omega
theorem wordsK_succ {N m : Nat} {es : List Ed} {k : Nat} {e : Ed} (h : es[k]? = some e) : wordsK N m es (k + 1) = wordsK N m es k ++ edW e := by
  obtain ⟨hk, rfl⟩ := List.getElem?_eq_some_iff.1 h
  unfold wordsK
  rw [List.take_succ_eq_append_getElem hk, List.flatMap_append]
  simp
theorem one_strs (l : List ByteArray) : ∀ u ∈ l.map Value.string, u.oneCell' = true := by
  intro u hu
  rw [List.mem_map] at hu
  obtain ⟨x, _, rfl⟩ := hu
  rfl
theorem right_edges {n : Int} {es : List Ed} (h : rightF n es = 0) : ∀ e ∈ es, 0 ≤ e.f ∧ e.f < n ∧ 0 ≤ e.t ∧ e.t < n ∧ e.w ≤ 4294967296 := by
  unfold rightF at h
  split at h
  · cases h
  · split at h
    · cases h
    · split at h
      · rename_i h3
        split at h
        · rename_i h4
          intro e he
          have a := List.all_eq_true.1 h3 e he
          have b := List.all_eq_true.1 h4 e he
          simp [endsB, nodeB, weightB] at a b
          omega
        · cases h
      · cases h
set_option maxHeartbeats 1000000 in
theorem rwords6_no (n : Int) (a : Option Addr) (m c : Nat) (F R : Int) (hF : (F ≠ 0 ∧ R = 1) ∨ (F = 0 ∧ 16384 < 2 + 3 * m ∧ R = 5)) (hm : F = 0 → m ≤ 100000) (w : World)
    (HR : Hid (∀ W, Below w.heap.size w W → Calls Tryd.prog 18 #[.agg #[.int .i64 n, .slice a m c]] W fun e w' => e = .returned (.int .i64 F) ∧ Below W.heap.size W w')) :
    Calls Tryd.prog 9 #[.agg #[.int .i64 n, .slice a m c]] w fun e w' => e = .returned (.tuple #[.slice none 0 0, .int .i64 R]) ∧ Below w.heap.size w w' := by
  have HB0 := Lib.hid ((Below.refl w.heap.size w).alloc (Nat.le_refl _) (.cells #[.int .i64 n, .slice a m c] 24))
  rcases hF with ⟨h, rfl⟩ | ⟨rfl, h, rfl⟩
  · have hne : (F != 0) = true := by rw [bne_iff_ne]; exact h
    clear h hm
    go_enter Tryd.func9, Tryd.ntmps9
    go_wp2_with (go_at_call 18; refine (HR.out _ HB0.out).mono ?_; rintro e w1 ⟨rfl, hB⟩; have HB1 := Lib.hid (on_trans HB0.out hB); clear hB HR)
    go_ret2
    exact ⟨rfl, HB1.out⟩
  · have hm1 : (m : Int) ≤ 100000 := by have := hm rfl; omega
    have hd : decide ((16384 : Int) < 2 + 3 * (m : Int)) = true := decide_eq_true (by omega)
    clear hm h
    go_enter Tryd.func9, Tryd.ntmps9
    go_wp2_with (go_at_call 18; refine (HR.out _ HB0.out).mono ?_; rintro e w1 ⟨rfl, hB⟩; have b1 := cell_on hB (p := ⟨w.heap.size, 1, none⟩) (v := .slice a m c) (by simp); have HB1 := Lib.hid (on_trans HB0.out hB); clear hB HR)
    go_ret2
    exact ⟨rfl, HB1.out⟩
/-- What a round of Words loads: the slice of edges, and an edge's cells. -/
def ES (G : Nat) (v : Value) (b o : Nat) (f t : Int) (x : Nat) (w : World) : Prop := w.cell? ⟨G, 1, none⟩ = some v ∧ w.cell? ⟨b, o, none⟩ = some (.int .i64 f) ∧ w.cell? ⟨b, o + 1, none⟩ = some (.int .i64 t) ∧ w.cell? ⟨b, o + 2, none⟩ = some (.int .u64 (x : Int))
theorem ES.on {G : Nat} {v : Value} {b o : Nat} {f t : Int} {x : Nat} {W w1 : World} (hb : Below W.heap.size W w1) (h : ES G v b o f t x W) : ES G v b o f t x w1 := ⟨cell_on hb h.1, cell_on hb h.2.1, cell_on hb h.2.2.1, cell_on hb h.2.2.2⟩
theorem ES.far {G : Nat} {v : Value} {b o : Nat} {f t : Int} {x : Nat} {W w1 : World} {row : Option Nat} (hg : W.grownBy w1 row) (h1 : some G ≠ row) (h2 : some b ≠ row) (h : ES G v b o f t x W) : ES G v b o f t x w1 := ⟨far_cell hg h1 h.1, far_cell hg h2 h.2.1, far_cell hg h2 h.2.2.1, far_cell hg h2 h.2.2.2⟩
theorem owns_full (w : World) (l : List Value) (base n : Nat) (e : TypeId) (hb : base ≤ w.heap.size) (hl : l.length = n) (hm : n ≤ maxLen) : (w.alloc (.cells l.toArray e)).ownsRow base e 1 (.slice (some ⟨w.heap.size, 0, none⟩) n n) n l :=
  ⟨by simp [hl], .inr ⟨w.heap.size, n, l.toArray, rfl, hb, heap_alloc_new w _, Nat.le_refl _, hm, by simp [hl], by rw [List.take_of_length_le (by simp; omega)]⟩⟩
/-- What the head's region loads, and that all before lies as it did. -/
def RS (G : Nat) (u v : Value) (W0 w : World) : Prop := w.cell? ⟨G, 0, none⟩ = some u ∧ w.cell? ⟨G, 1, none⟩ = some v ∧ Hid (Below W0.heap.size W0 w)
theorem RS.on {G : Nat} {u v : Value} {W0 W w1 : World} (hb : Below W.heap.size W w1) (h : RS G u v W0 W) : RS G u v W0 w1 := ⟨cell_on hb h.1, cell_on hb h.2.1, Lib.hid (h.2.2.out.trans (hb.mono h.2.2.out.size))⟩
set_option maxHeartbeats 4000000 in
theorem rwords6_right (N : Nat) (es : List Ed) (a : Option Addr) (m c : Nat) (hm : es.length = m) (hl : m ≤ 16384) (hN : N ≤ 4096) (hs : ¬ 16384 < 2 + 3 * m) (hends : Hid (∀ e ∈ es, 0 ≤ e.f ∧ e.f < N ∧ 0 ≤ e.t ∧ e.t < N ∧ e.w ≤ 4294967296)) (w : World)
    (HC : Hid (0 < m → ∃ b off, a = some ⟨b, off, none⟩ ∧ ∀ (j : Nat) e, es[j]? = some e → w.cell? ⟨b, off + j * 3, none⟩ = some (.int .i64 e.f) ∧ w.cell? ⟨b, off + j * 3 + 1, none⟩ = some (.int .i64 e.t) ∧ w.cell? ⟨b, off + j * 3 + 2, none⟩ = some (.int .u64 (e.w : Int))))
    (HR : Hid (∀ W, Below w.heap.size w W → Calls Tryd.prog 18 #[.agg #[.int .i64 (N : Int), .slice a m c]] W fun e w' => e = .returned (.int .i64 0) ∧ Below W.heap.size W w')) :
    Calls Tryd.prog 9 #[.agg #[.int .i64 (N : Int), .slice a m c]] w fun e w' => ∃ v, e = .returned (.tuple #[v, .int .i64 0]) ∧ StrsAt w' v (wordsG N es) ∧ Below w.heap.size w w' := by
  have HB0 := Lib.hid ((Below.refl w.heap.size w).alloc (Nat.le_refl _) (.cells #[.int .i64 (N : Int), .slice a m c] 24))
  have hm1 : (m : Int) ≤ 16384 := by omega
  have hN1 : (N : Int) ≤ 4096 := by omega
  have hd : decide ((16384 : Int) < 2 + 3 * (m : Int)) = false := decide_eq_false (by omega)
  have HcN := Lib.hid (fun W => rnumber_any N (by omega) W)
  have HcM := Lib.hid (fun W => rnumber_any m (by omega) W)
  go_enter Tryd.func9, Tryd.ntmps9
  go_wp2_with (go_at_call 18; refine (HR.out _ HB0.out).mono ?_; rintro e w1 ⟨rfl, hB⟩; have b0 := cell_on hB (p := ⟨w.heap.size, 0, none⟩) (v := .int .i64 (N : Int)) (by simp); have b1 := cell_on hB (p := ⟨w.heap.size, 1, none⟩) (v := .slice a m c) (by simp); have HB1 := Lib.hid (on_trans HB0.out hB); clear hB HR)
  have hwG : w.heap.size < w1.heap.size := World.block_lt_of_cell? w1 _ b0
  obtain ⟨G, hG⟩ : ∃ G, w.heap.size = G := ⟨_, rfl⟩
  rw [hG] at b0 b1 hwG ⊢
  go_region_held3 (fun w' => w'.cell? ⟨G, 0, none⟩ = some (.int .i64 (N : Int)) ∧ w'.cell? ⟨G, 1, none⟩ = some (.slice a m c) ∧ Hid (Below w1.heap.size w1 w'))
    (first
      | exact ⟨b0, b1, Lib.hid (Below.refl _ _).drew⟩
      | exact RS.on ((Below.refl _ _).alloc (Nat.le_refl _) _) ‹_›
      | exact RS.on hB ‹_›)
    (first
      | (go_at_call 23; refine (HcN.out _).mono ?_; rintro e w2 ⟨rfl, hB⟩; have HBa := Lib.hid (on_trans (w := w1) (Below.refl _ _).drew hB); clear HcN)
      | (go_at_call 23; refine (HcM.out _).mono ?_; rintro e w3 ⟨rfl, hB⟩; have HBb := Lib.hid (on_trans HBa.out hB); clear HcM))
  obtain ⟨H, hH⟩ : ∃ H, w1.heap.size = H := ⟨_, rfl⟩
  have hHeld := ‹_ ∧ _ ∧ Hid (Below w1.heap.size w1 _)›
  obtain ⟨k0, k1, HBw⟩ := hHeld
  have hH3 := HBb.out.size
  rw [hH] at HBw hwG hH3
  have HOw : Hid ((w3.alloc (.cells #[.string (dg N), .string (dg m)] 9)).ownsRow H 9 1 (.slice (some ⟨w3.heap.size, 0, none⟩) 2 2) (2 + 3 * 0) ((wordsK N m es 0).map Value.string)) := Lib.hid (owns_full w3 [.string (dg N), .string (dg m)] H 2 9 hH3 rfl (by unfold maxLen; omega))
  have HZw : Hid (H ≤ (w3.alloc (.cells #[.string (dg N), .string (dg m)] 9)).heap.size) := Lib.hid (by simp; omega)
  obtain ⟨W4, hW4⟩ : ∃ W4, w3.alloc (.cells #[.string (dg N), .string (dg m)] 9) = W4 := ⟨_, rfl⟩
  rw [hW4] at HBw HOw HZw ⊢
  clear hW4 k0 k1 hB HBa HBb hH3
  go_wp2
  go_loopw [4, 5] (fun v i wr => ∃ k : Nat, k ≤ m ∧ i = .int .i64 k ∧ Hid (wr.ownsRow H 9 1 v (2 + 3 * k) ((wordsK N m es k).map Value.string)) ∧ Hid (Below H w1 wr) ∧ Hid (H ≤ wr.heap.size)) (fun _ i _ => m - (RowKit.intOf i).toNat)
  case atStart => exact ⟨0, by omega, rfl, HOw, HBw, HZw⟩
  case round =>
    obtain ⟨k, hk, rfl, HO, HB, HZ⟩ := hrel
    obtain ⟨av, cv, rfl⟩ := slice_form HO.out
    have g1 := cell_lt HB.out (show G < H by omega) b1
    by_cases hkm : k < m
    · obtain ⟨b, off, rfl, hc⟩ := HC.out (by omega)
      have he0 : es[k]? = some (es[k]'(by omega)) := List.getElem?_eq_getElem (by omega)
      obtain ⟨⟨f, t, x⟩, he⟩ : ∃ e, es[k]'(by omega) = e := ⟨_, rfl⟩
      rw [he] at he0
      obtain ⟨e1, e2, e3⟩ := hc k _ he0
      simp only at e1 e2 e3
      obtain ⟨n1, n2, n3, n4, n5⟩ := hends.out ⟨f, t, x⟩ (he ▸ List.getElem_mem _)
      simp only at n1 n2 n3 n4 n5
      obtain ⟨F, rfl⟩ : ∃ F : Nat, f = F := ⟨f.toNat, by omega⟩
      obtain ⟨T, rfl⟩ : ∃ T : Nat, t = T := ⟨t.toNat, by omega⟩
      have hbs : b < G := by have := World.block_lt_of_cell? w _ e1; simp only at this; omega
      have e1 := cell_lt HB.out (show b < H by omega) (cell_on HB1.out e1)
      have e2 := cell_lt HB.out (show b < H by omega) (cell_on HB1.out e2)
      have e3 := cell_lt HB.out (show b < H by omega) (cell_on HB1.out e3)
      have HcF := Lib.hid (fun W => rnumber_any F (by omega) W)
      have HcT := Lib.hid (fun W => rnumber_any T (by omega) W)
      have HcW := Lib.hid (fun W => rprint_any x (by omega) W)
      have R1 : some G ≠ (Value.slice av (2 + 3 * k) cv).ownBlock := own_low HO.out (by omega)
      have R2 : some b ≠ (Value.slice av (2 + 3 * k) cv).ownBlock := own_low HO.out (by omega)
      have hi0 : (0 : Int) ≤ (k : Int) := Int.natCast_nonneg _
      have hi1 : (k : Int) < (m : Int) := by omega
      have HLS := Lib.hid (wordsK_succ (N := N) (m := m) he0)
      have hXs : (edW ⟨(F : Int), (T : Int), x⟩).map Value.string = [.string (dg F), .string (dg T), .string (dg x)] := by simp [edW]
      obtain ⟨i0, hi, hz0, hz1, hz2⟩ := info_parts info9
      have h01 : 0 < 1 := by omega
      have h03 : 0 < 3 := by omega
      have hml : 2 + 3 * k + 3 ≤ maxLen := by unfold maxLen; omega
      have hmb : (2 + 3 * k + 3) * 16 ≤ 140737488355328 := by omega
      clear he he0 hc HC HOw HBw HZw b0
      go_wp2
      go_region_held3 (fun w' => w'.cell? ⟨G, 1, none⟩ = some (.slice (some ⟨b, off, none⟩) m c) ∧ w'.cell? ⟨b, off + k * 3, none⟩ = some (.int .i64 (F : Int)) ∧ w'.cell? ⟨b, off + k * 3 + 1, none⟩ = some (.int .i64 (T : Int)) ∧ w'.cell? ⟨b, off + k * 3 + 2, none⟩ = some (.int .u64 (x : Int)))
        (first
          | exact ES.on ((Below.refl _ _).drew) ⟨g1, e1, e2, e3⟩
          | exact ES.on ((Below.refl _ _).alloc (Nat.le_refl _) _) ‹_›
          | exact ES.far hgrow R1 R2 ‹_›
          | exact ES.on hB ‹_›)
        (first
          | (go_at_call 23; refine (HcF.out _).mono ?_; rintro e w5 ⟨rfl, hB⟩; have HBa := Lib.hid (on_trans (w := wr) (Below.refl _ _).drew hB); clear HcF)
          | (go_at_call 23; refine (HcT.out _).mono ?_; rintro e w6 ⟨rfl, hB⟩; have HBb := Lib.hid (on_trans HBa.out hB); clear HcT)
          | (go_at_call 24; refine (HcW.out _).mono ?_; rintro e w7 ⟨rfl, hB⟩; have HBc := Lib.hid (on_trans HBb.out hB); clear HcW)
          | (refine step_append_lies _ (by rfl) _ _ _ (by rfl) H 9 i0 _ 1 16 Tryd.underlying27 hi hz0 hz1 hz2 rfl h01 _ (2 + 3 * k) ((wordsK N m es k).map Value.string) (by rfl) ((owns_on HO.out HBc.out).alloc _) ⟨w7.heap.size, 0, none⟩ 3 3 ((edW ⟨(F : Int), (T : Int), x⟩).map Value.string) (by rfl) (by rfl) (by rw [hXs]; exact World.news_of_block (heap_alloc_new w7 _)) (one_strs _) h03 hml hmb (by have h1 := HBc.out.size; have h2 := HZ.out; simp; omega) _ rfl ?_; intro gg cap w8 hown1 hgrow hat hlt2; have HO8 := Lib.hid hown1; have HB8 := Lib.hid (below_growE ((HB.out.trans (HBc.out.mono HZ.out)).alloc (by have h1 := HBc.out.size; have h2 := HZ.out; omega) _) (Nat.le_refl H) (by have h1 := HBc.out.size; have h2 := HZ.out; simp; omega) ((owns_on HO.out HBc.out).alloc _) hgrow); have HZ8 : Hid (H ≤ w8.heap.size) := Lib.hid (by have h1 := hgrow.size; have h2 := HBc.out.size; have h3 := HZ.out; simp at h1; omega)))
      clear HBa HBb HBc HO HB HZ g1 e1 e2 e3 hown1 hgrow hat hB
      go_wp2
      go_roundw
      case rel => exact ⟨k + 1, by omega, by go_num, Lib.hid (by rw [HLS.out, List.map_append, show 2 + 3 * (k + 1) = 2 + 3 * k + 3 by omega]; exact HO8.out), HB8, HZ8⟩
      case measure => simp [RowKit.intOf] <;> omega
    · obtain rfl : k = m := by omega
      have HS := Lib.hid (show StrsAt wr (.slice av (2 + 3 * k) cv) (wordsG N es) from by
        have h1 := HO.out
        have h2 : wordsK N k es k = wordsG N es := by unfold wordsK wordsG; rw [List.take_of_length_le (by omega), hm]
        rw [h2] at h1
        have h3 := wordsG_len N es
        rw [hm] at h3
        rw [← h3] at h1 ⊢
        exact StrsAt.own h1)
      have HZ9 := Lib.hid (HB1.out.trans (HB.out.mono (by omega)))
      clear HO HB HZ HC HOw HBw HZw b0
      go_wp2
      go_ret2
      exact ⟨_, rfl, HS.out, HZ9.out⟩
theorem rwords6_any (n : Int) {v : Value} {es : List Ed} (w : World) (hl : es.length ≤ 100000) (h : EdgesAt w v es) :
    Calls Tryd.prog 9 #[.agg #[.int .i64 n, v]] w fun e w' => ∃ v', e = .returned (.tuple #[v', .int .i64 (gwordsF n es)]) ∧ StrsAt w' v' (gwordsV n es) ∧ Below w.heap.size w w' := by
  have HR := Lib.hid (fun W (hB : Below w.heap.size w W) => gright_any n W (h.on hB))
  obtain ⟨a, c, rfl, g⟩ := edgesAt_flat h
  unfold gwordsV gwordsF
  by_cases h1 : rightF n es = 0
  · rw [if_pos h1]
    rw [h1] at HR
    by_cases h2 : 16384 < 2 + 3 * es.length
    · rw [if_pos h2, if_neg (by decide)]
      exact (rwords6_no n a es.length c 0 5 (.inr ⟨rfl, h2, rfl⟩) (fun _ => hl) w HR).mono fun e w' ⟨e1, e2⟩ => ⟨_, e1, StrsAt.none _ _ _, e2⟩
    · rw [if_neg h2, if_pos rfl]
      have hn : 1 ≤ n ∧ n ≤ 4096 := by
        unfold rightF at h1
        split at h1
        · cases h1
        · omega
      obtain ⟨N, rfl⟩ : ∃ N : Nat, n = N := ⟨n.toNat, by omega⟩
      rw [Int.toNat_natCast]
      exact rwords6_right N es a es.length c rfl (by omega) (by omega) h2 (Lib.hid fun e he => right_edges h1 e he) w (Lib.hid g) HR
  · rw [if_neg h1, if_neg (by decide)]
    exact (rwords6_no n a es.length c _ 1 (.inl ⟨h1, rfl⟩) (fun h => absurd h h1) w HR).mono fun e w' ⟨e1, e2⟩ => ⟨_, e1, StrsAt.none _ _ _, e2⟩
end Go.Proofs.YtlecidgfchaonaaDoor

namespace Go.Proofs.YtlecidgfchaonaaDoor
open Go.RowKit
attribute [local go_sem ↓] Go.wp_at_zero Go.wp_at_succ
/-- A graph's text: its head; a line for each edge. -/
def headB (N m : Nat) : ByteArray := ⟨#[103, 114, 97, 112, 104, 32]⟩ ++ dg N ++ ⟨#[32]⟩ ++ dg m ++ ⟨#[10]⟩
def addE (t : ByteArray) (e : Ed) : ByteArray := t ++ ⟨#[101, 32]⟩ ++ dg e.f.toNat ++ ⟨#[32]⟩ ++ dg e.t.toNat ++ ⟨#[32]⟩ ++ dg e.w ++ ⟨#[10]⟩
def textK (N m : Nat) (es : List Ed) (k : Nat) : ByteArray := (es.take k).foldl addE (headB N m)
def textG (N : Nat) (es : List Ed) : ByteArray := es.foldl addE (headB N es.length)
def gprintF (n : Int) (es : List Ed) : Int := if rightF n es = 0 then 0 else 1
def gprintV (n : Int) (es : List Ed) : ByteArray := if rightF n es = 0 then textG n.toNat es else ⟨#[]⟩
theorem sz6 : (⟨#[103, 114, 97, 112, 104, 32]⟩ : ByteArray).size = 6 := rfl
theorem sz2 : (⟨#[101, 32]⟩ : ByteArray).size = 2 := rfl
theorem sz32 : (⟨#[32]⟩ : ByteArray).size = 1 := rfl
theorem sz10 : (⟨#[10]⟩ : ByteArray).size = 1 := rfl
theorem textK_succ {N m : Nat} {es : List Ed} {k : Nat} {e : Ed} (h : es[k]? = some e) : textK N m es (k + 1) = addE (textK N m es k) e := by
  obtain ⟨hk, rfl⟩ := List.getElem?_eq_some_iff.1 h
  unfold textK
  rw [List.take_succ_eq_append_getElem hk, List.foldl_append]
  rfl
set_option maxHeartbeats 1000000 in
theorem rprint6_no (n : Int) (E : Value) (F : Int) (hF : F ≠ 0) (w : World)
    (HR : Hid (∀ W, Below w.heap.size w W → Calls Tryd.prog 18 #[.agg #[.int .i64 n, E]] W fun e w' => e = .returned (.int .i64 F) ∧ Below W.heap.size W w')) :
    Calls Tryd.prog 11 #[.agg #[.int .i64 n, E]] w fun e w' => e = .returned (.tuple #[.string ⟨#[]⟩, .int .i64 1]) ∧ Below w.heap.size w w' := by
  have HB0 := Lib.hid ((Below.refl w.heap.size w).alloc (Nat.le_refl _) (.cells #[.int .i64 n, E] 24))
  have hne : (F != 0) = true := by rw [bne_iff_ne]; exact hF
  clear hF
  go_enter Tryd.func11, Tryd.ntmps11
  go_wp2_with (go_at_call 18; refine (HR.out _ HB0.out).mono ?_; rintro e w1 ⟨rfl, hB⟩; have HB1 := Lib.hid (on_trans HB0.out hB); clear hB HR)
  go_ret2
  exact ⟨rfl, HB1.out⟩
set_option maxHeartbeats 4000000 in
theorem rprint6_right (N : Nat) (es : List Ed) (a : Option Addr) (m c : Nat) (hm : es.length = m) (hl : m ≤ 16384) (hN : N ≤ 4096) (hends : Hid (∀ e ∈ es, 0 ≤ e.f ∧ e.f < N ∧ 0 ≤ e.t ∧ e.t < N ∧ e.w ≤ 4294967296)) (w : World)
    (HC : Hid (0 < m → ∃ b off, a = some ⟨b, off, none⟩ ∧ ∀ (j : Nat) e, es[j]? = some e → w.cell? ⟨b, off + j * 3, none⟩ = some (.int .i64 e.f) ∧ w.cell? ⟨b, off + j * 3 + 1, none⟩ = some (.int .i64 e.t) ∧ w.cell? ⟨b, off + j * 3 + 2, none⟩ = some (.int .u64 (e.w : Int))))
    (HR : Hid (∀ W, Below w.heap.size w W → Calls Tryd.prog 18 #[.agg #[.int .i64 (N : Int), .slice a m c]] W fun e w' => e = .returned (.int .i64 0) ∧ Below W.heap.size W w')) :
    Calls Tryd.prog 11 #[.agg #[.int .i64 (N : Int), .slice a m c]] w fun e w' => e = .returned (.tuple #[.string (textG N es), .int .i64 0]) ∧ Below w.heap.size w w' := by
  have HB0 := Lib.hid ((Below.refl w.heap.size w).alloc (Nat.le_refl _) (.cells #[.int .i64 (N : Int), .slice a m c] 24))
  have hm1 : (m : Int) ≤ 16384 := by omega
  have hN1 : (N : Int) ≤ 4096 := by omega
  have HcN := Lib.hid (fun W => rnumber_any N (by omega) W)
  have HcM := Lib.hid (fun W => rnumber_any m (by omega) W)
  have s1 := dg_size N (by omega)
  have s2 := dg_size m (by omega)
  obtain ⟨sN, hsN⟩ : ∃ sN, dg N = sN := ⟨_, rfl⟩
  obtain ⟨sM, hsM⟩ : ∃ sM, dg m = sM := ⟨_, rfl⟩
  rw [hsN] at HcN s1
  rw [hsM] at HcM s2
  have HX := Lib.hid (show headB N m = ⟨#[103, 114, 97, 112, 104, 32]⟩ ++ sN ++ ⟨#[32]⟩ ++ sM ++ ⟨#[10]⟩ from by unfold headB; rw [hsN, hsM])
  have g1 : ¬ 9223372036854775807 < 6 + sN.size := by omega
  have g2 : ¬ 9223372036854775807 < 6 + sN.size + 1 := by omega
  have g3 : ¬ 9223372036854775807 < 6 + sN.size + 1 + sM.size := by omega
  have g4 : ¬ 9223372036854775807 < 6 + sN.size + 1 + sM.size + 1 := by omega
  clear hsN hsM
  go_enter Tryd.func11, Tryd.ntmps11
  go_wp2_with (go_at_call 18; refine (HR.out _ HB0.out).mono ?_; rintro e w1 ⟨rfl, hB⟩; have b0 := cell_on hB (p := ⟨w.heap.size, 0, none⟩) (v := .int .i64 (N : Int)) (by simp); have b1 := cell_on hB (p := ⟨w.heap.size, 1, none⟩) (v := .slice a m c) (by simp); have HB1 := Lib.hid (on_trans HB0.out hB); clear hB HR)
  have hwG : w.heap.size < w1.heap.size := World.block_lt_of_cell? w1 _ b0
  obtain ⟨G, hG⟩ : ∃ G, w.heap.size = G := ⟨_, rfl⟩
  rw [hG] at b0 b1 hwG ⊢
  go_region_held3 (fun w' => w'.cell? ⟨G, 0, none⟩ = some (.int .i64 (N : Int)) ∧ w'.cell? ⟨G, 1, none⟩ = some (.slice a m c) ∧ Hid (Below w1.heap.size w1 w'))
    (first
      | exact ⟨b0, b1, Lib.hid (Below.refl _ _).drew⟩
      | exact RS.on hB ‹_›)
    (first
      | (go_at_call 23; refine (HcN.out _).mono ?_; rintro e w2 ⟨rfl, hB⟩; clear HcN)
      | (go_at_call 23; refine (HcM.out _).mono ?_; rintro e w3 ⟨rfl, hB⟩; clear HcM))
  obtain ⟨H, hH⟩ : ∃ H, w1.heap.size = H := ⟨_, rfl⟩
  have hHeld := ‹_ ∧ _ ∧ Hid (Below w1.heap.size w1 _)›
  obtain ⟨k0, k1, HBw⟩ := hHeld
  rw [hH] at HBw hwG
  clear k0 k1 hB g1 g2 g3 g4
  rw [← HX.out]
  go_wp2
  go_loopw [4, 5] (fun v i wr => ∃ (k : Nat) (t : ByteArray), k ≤ m ∧ i = .int .i64 k ∧ v = .string t ∧ t.size ≤ 50 + 80 * k ∧ Hid (t = textK N m es k) ∧ Hid (Below H w1 wr)) (fun _ i _ => m - (RowKit.intOf i).toNat)
  case atStart => exact ⟨0, _, by omega, rfl, rfl, by rw [HX.out]; simp only [ByteArray.size_append, sz6, sz32, sz10]; omega, Lib.hid rfl, HBw⟩
  case round =>
    obtain ⟨k, y, hk, rfl, rfl, hy, HT, HB⟩ := hrel
    have g1 := cell_lt HB.out (show G < H by omega) b1
    by_cases hkm : k < m
    · obtain ⟨b, off, rfl, hc⟩ := HC.out (by omega)
      have he0 : es[k]? = some (es[k]'(by omega)) := List.getElem?_eq_getElem (by omega)
      obtain ⟨⟨f, t, x⟩, he⟩ : ∃ e, es[k]'(by omega) = e := ⟨_, rfl⟩
      rw [he] at he0
      obtain ⟨e1, e2, e3⟩ := hc k _ he0
      simp only at e1 e2 e3
      obtain ⟨n1, n2, n3, n4, n5⟩ := hends.out ⟨f, t, x⟩ (he ▸ List.getElem_mem _)
      simp only at n1 n2 n3 n4 n5
      obtain ⟨F, rfl⟩ : ∃ F : Nat, f = F := ⟨f.toNat, by omega⟩
      obtain ⟨T, rfl⟩ : ∃ T : Nat, t = T := ⟨t.toNat, by omega⟩
      have hbs : b < G := by have := World.block_lt_of_cell? w _ e1; simp only at this; omega
      have e1 := cell_lt HB.out (show b < H by omega) (cell_on HB1.out e1)
      have e2 := cell_lt HB.out (show b < H by omega) (cell_on HB1.out e2)
      have e3 := cell_lt HB.out (show b < H by omega) (cell_on HB1.out e3)
      have HcF := Lib.hid (fun W => rnumber_any F (by omega) W)
      have HcT := Lib.hid (fun W => rnumber_any T (by omega) W)
      have HcW : Hid (∀ W, Calls Tryd.prog 24 #[.int .u64 (x : Int)] W fun e w' => e = .returned (.string (dg x)) ∧ Below W.heap.size W w') := Lib.hid (fun W => rprint_any x (by omega) W)
      have z1 := dg_size F (by omega)
      have z2 := dg_size T (by omega)
      have z3 := dg_size x (by omega)
      have hE : addE y ⟨(F : Int), (T : Int), x⟩ = y ++ ⟨#[101, 32]⟩ ++ dg F ++ ⟨#[32]⟩ ++ dg T ++ ⟨#[32]⟩ ++ dg x ++ ⟨#[10]⟩ := rfl
      have hT2 := textK_succ (N := N) (m := m) he0
      rw [← HT.out, hE] at hT2
      obtain ⟨sF, hsF⟩ : ∃ sF, dg F = sF := ⟨_, rfl⟩
      obtain ⟨sT, hsT⟩ : ∃ sT, dg T = sT := ⟨_, rfl⟩
      obtain ⟨sW, hsW⟩ : ∃ sW, dg x = sW := ⟨_, rfl⟩
      rw [hsF] at HcF z1 hT2
      rw [hsT] at HcT z2 hT2
      rw [hsW] at HcW z3 hT2
      have HT2 := Lib.hid hT2
      have q1 : ¬ 9223372036854775807 < y.size + 2 := by omega
      have q2 : ¬ 9223372036854775807 < y.size + 2 + sF.size := by omega
      have q3 : ¬ 9223372036854775807 < y.size + 2 + sF.size + 1 := by omega
      have q4 : ¬ 9223372036854775807 < y.size + 2 + sF.size + 1 + sT.size := by omega
      have q5 : ¬ 9223372036854775807 < y.size + 2 + sF.size + 1 + sT.size + 1 := by omega
      have q6 : ¬ 9223372036854775807 < y.size + 2 + sF.size + 1 + sT.size + 1 + sW.size := by omega
      have q7 : ¬ 9223372036854775807 < y.size + 2 + sF.size + 1 + sT.size + 1 + sW.size + 1 := by omega
      have hi0 : (0 : Int) ≤ (k : Int) := Int.natCast_nonneg _
      have hi1 : (k : Int) < (m : Int) := by omega
      clear he he0 hc HC HBw b0 hE hT2 hsF hsT hsW n1 n2 n3 n4 n5
      go_wp2
      go_region_held3 (fun w' => w'.cell? ⟨G, 1, none⟩ = some (.slice (some ⟨b, off, none⟩) m c) ∧ w'.cell? ⟨b, off + k * 3, none⟩ = some (.int .i64 (F : Int)) ∧ w'.cell? ⟨b, off + k * 3 + 1, none⟩ = some (.int .i64 (T : Int)) ∧ w'.cell? ⟨b, off + k * 3 + 2, none⟩ = some (.int .u64 (x : Int)))
        (first
          | exact ES.on ((Below.refl _ _).drew) ⟨g1, e1, e2, e3⟩
          | exact ES.on hB ‹_›)
        (first
          | (go_at_call 23; refine (HcF.out _).mono ?_; rintro e w5 ⟨rfl, hB⟩; have HBa := Lib.hid (on_trans (w := wr) (Below.refl _ _).drew hB); clear HcF)
          | (go_at_call 23; refine (HcT.out _).mono ?_; rintro e w6 ⟨rfl, hB⟩; have HBb := Lib.hid (on_trans HBa.out hB); clear HcT)
          | (go_at_call 24; refine (HcW.out _).mono ?_; rintro e w7 ⟨rfl, hB⟩; have HBc := Lib.hid (on_trans HBb.out hB); clear HcW))
      clear hB HBa HBb q1 q2 q3 q4 q5 q6 q7 g1 e1 e2 e3
      go_wp2
      go_roundw
      case rel => exact ⟨k + 1, _, by omega, by go_num, rfl, by simp only [ByteArray.size_append, sz2, sz32, sz10]; omega, Lib.hid HT2.out.symm, Lib.hid (HB.out.trans (HBc.out.mono (by have := HB.out.size; omega)))⟩
      case measure => simp [RowKit.intOf] <;> omega
    · obtain rfl : k = m := by omega
      have HS := Lib.hid (show y = textG N es from by
        rw [HT.out]
        unfold textK textG
        rw [List.take_of_length_le (by omega), hm])
      have HZ9 := Lib.hid (HB1.out.trans (HB.out.mono (by omega)))
      clear HT HB HC HBw b0
      go_wp2
      go_ret2
      exact ⟨by rw [HS.out]; rfl, HZ9.out⟩
theorem rprint6_any (n : Int) {v : Value} {es : List Ed} (w : World) (h : EdgesAt w v es) :
    Calls Tryd.prog 11 #[.agg #[.int .i64 n, v]] w fun e w' => e = .returned (.tuple #[.string (gprintV n es), .int .i64 (gprintF n es)]) ∧ Below w.heap.size w w' := by
  have HR := Lib.hid (fun W (hB : Below w.heap.size w W) => gright_any n W (h.on hB))
  obtain ⟨a, c, rfl, g⟩ := edgesAt_flat h
  unfold gprintV gprintF
  by_cases h1 : rightF n es = 0
  · rw [if_pos h1, if_pos h1]
    rw [h1] at HR
    have hn : 1 ≤ n ∧ n ≤ 4096 ∧ es.length ≤ 16384 := by
      unfold rightF at h1
      split at h1
      · cases h1
      · split at h1
        · cases h1
        · omega
    obtain ⟨N, rfl⟩ : ∃ N : Nat, n = N := ⟨n.toNat, by omega⟩
    rw [Int.toNat_natCast]
    exact rprint6_right N es a es.length c rfl hn.2.2 (by omega) (Lib.hid fun e he => right_edges h1 e he) w (Lib.hid g) HR
  · rw [if_neg h1, if_neg h1]
    exact rprint6_no n _ _ h1 w HR
end Go.Proofs.YtlecidgfchaonaaDoor
