import Derived.Test.YtcgijabnknemiaaGraZb
import Derived.Test.YtcgijabnknemiaaGraM
set_option linter.unusedVariables false
set_option linter.unusedSimpArgs false
namespace Go.Proofs.Ytcgijabnknemiaa
open Go.RowKit
attribute [local go_sem ↓] Go.wp_at_zero Go.wp_at_succ
/-- append onto nil, of however many (none too): the new row is the call's own. -/
theorem run_append_fresh {P : Program} (w : World) (t ty : TypeId) (base : Nat) (e : TypeId) (i : TypeInfo) (z : Value) (size bytes : Nat) (ht : P.underlying t = some (.slice e)) (hi : P.info? e = some i) (hz : i.zero = some z)
    (hsize : i.size = size) (hby : i.bytes = bytes) (hzs : z.cells.size = size) (hsz : 0 < size)
    (ao : Option Addr) (m c : Nat) (news : List Value) (hl : news.length = m * size) (hao : 0 < m → ∃ ad, ao = some ad) (hnews : ∀ ad, ao = some ad → ∀ j u, news[j]? = some u → w.cell? (ad.add j) = some u) (h1 : ∀ u ∈ news, u.oneCell' = true)
    (h63 : m ≤ maxLen) (hbytes : m * bytes ≤ 140737488355328) (hbase : base ≤ w.heap.size) :
    ∃ a' c' w', (Builtin.append_ #[t, t] ty #[.slice none 0 0, .slice ao m c]).run P w = .ok (.slice a' m c') w' ∧ w'.ownsRow base e size (.slice a' m c') m news ∧ w.grownBy w' none := by
  by_cases hm : m = 0
  · subst hm
    have hn : news = [] := List.eq_nil_of_length_eq_zero (by simpa using hl)
    subst hn
    refine ⟨none, 0, w, ?_, World.ownsRow_nil w base e size, ⟨rfl, rfl, rfl, Nat.le_refl _, fun _ _ _ => rfl⟩⟩
    cases ao <;> simp [Builtin.append_, run_underlying ht, sizeOf, typeInfo, hi, Builtin.lenOf, Builtin.firstCells, loadCells, loadCellsFrom]
  · obtain ⟨ad, rfl⟩ := hao (by omega)
    obtain ⟨g, cap, w', hr, h2, h3, _, _⟩ := run_append_lies (P := P) w t ty base e i z size bytes ht hi hz hsize hby hzs hsz (.slice none 0 0) 0 [] (World.ownsRow_nil w base e size) ad m c news hl (hnews ad rfl) h1 (by omega) (by omega) (by rw [Nat.zero_add]; exact hbytes) hbase _ rfl
    rw [Nat.zero_add, List.nil_append] at h2
    rw [Nat.zero_add] at hr
    exact ⟨_, cap, w', hr, h2, h3⟩
theorem step_append_fresh {P : Program} (w : World) {ops : Array Oper} {o : Oper} {a : Act} {K : Act → World → Prop} {Q : Exit → Act → World → Prop} {E : Prop} (hgd : o.guard = none) (s x : Operand) (t : TypeId)
    (ho : o.op = .call { callee := .builtin .append, args := #[s, x], argTypes := #[t, t] })
    (base : Nat) (e : TypeId) (i : TypeInfo) (z : Value) (size bytes : Nat) (ht : P.underlying t = some (.slice e)) (hi : P.info? e = some i) (hz : i.zero = some z)
    (hsize : i.size = size) (hby : i.bytes = bytes) (hzs : z.cells.size = size) (hsz : 0 < size) (hs : a.eval s = .slice none 0 0)
    (ao : Option Addr) (m c : Nat) (news : List Value) (hx : a.eval x = .slice ao m c) (hl : news.length = m * size) (hao : 0 < m → ∃ ad, ao = some ad) (hnews : ∀ ad, ao = some ad → ∀ j u, news[j]? = some u → w.cell? (ad.add j) = some u) (h1 : ∀ u ∈ news, u.oneCell' = true)
    (h63 : m ≤ maxLen) (hbytes : m * bytes ≤ 140737488355328) (hbase : base ≤ w.heap.size)
    (h : ∀ a' c' w', w'.ownsRow base e size (.slice a' m c') m news → w.grownBy w' none → K (a.put o.dst (.slice a' m c')) w') :
    if Region.wanted o (yielded ops a.tmps) = true then Oper.wp P o a w K Q else E := by
  have hw : Region.wanted o (yielded ops a.tmps) = true := by simp [Region.wanted, hgd]
  rw [if_pos hw]
  obtain ⟨a', c', w', hr, h2, h3⟩ := run_append_fresh (P := P) w t o.type base e i z size bytes ht hi hz hsize hby hzs hsz ao m c news hl hao hnews h1 h63 hbytes hbase
  unfold Oper.wp execOp
  simp only [ho, resolve, invoke, builtin, Sem.run_bind, Sem.run_pure, Result.andThen_ok, List.map_toArray, List.map_cons, List.map_nil, hs, hx, hr]
  exact h a' c' w' h2 h3
/-- The cells of edges lie where the slice points, if it does. -/
def FlatO (w : World) (a : Option Addr) (es : List Ed) : Prop := ∀ ad, a = some ad → ∀ j u, (flat es)[j]? = some u → w.cell? (ad.add j) = some u
/-- A graph's two cells, and its edges. -/
def GC (B : Nat) (n : Int) (a : Option Addr) (m c : Nat) (es : List Ed) (w : World) : Prop := w.cell? ⟨B, 0, none⟩ = some (.int .i64 n) ∧ w.cell? ⟨B, 1, none⟩ = some (.slice a m c) ∧ Hid (FlatO w a es)
theorem GC.on {B : Nat} {n : Int} {a : Option Addr} {m c : Nat} {es : List Ed} {W w1 : World} (hb : Below W.heap.size W w1) (h : GC B n a m c es W) : GC B n a m c es w1 :=
  ⟨cell_on hb h.1, cell_on hb h.2.1, Lib.hid fun ad e j u hu => cell_on hb (h.2.2.out ad e j u hu)⟩
theorem GC.far {B : Nat} {n : Int} {a : Option Addr} {m c : Nat} {es : List Ed} {W w1 : World} (hg : W.grownBy w1 none) (h : GC B n a m c es W) : GC B n a m c es w1 :=
  ⟨far_cell hg (by simp) h.1, far_cell hg (by simp) h.2.1, Lib.hid fun ad e j u hu => far_cell hg (by simp) (h.2.2.out ad e j u hu)⟩
theorem GC.set2 {B : Nat} {n : Int} {a : Option Addr} {m c : Nat} {es : List Ed} {W w0 : World} {R i j : Nat} {u v : Value} (hB : B ≠ R) (h0 : Hid (FlatO w0 a es)) (hR : w0.heap.size ≤ R) (h : GC B n a m c es W) : GC B n a m c es ((W.setCell ⟨R, i, none⟩ u).setCell ⟨R, j, none⟩ v) := by
  refine ⟨?_, ?_, Lib.hid fun ad e j u hu => ?_⟩
  · rw [World.cell?_setCell_other _ _ _ _ (fun e => hB (congrArg Addr.block e).symm), World.cell?_setCell_other _ _ _ _ (fun e => hB (congrArg Addr.block e).symm)]; exact h.1
  · rw [World.cell?_setCell_other _ _ _ _ (fun e => hB (congrArg Addr.block e).symm), World.cell?_setCell_other _ _ _ _ (fun e => hB (congrArg Addr.block e).symm)]; exact h.2.1
  · have hlt := World.block_lt_of_cell? w0 _ (h0.out ad e j u hu)
    have hne : (ad.add j).block ≠ R := by omega
    rw [World.cell?_setCell_other _ _ _ _ (fun e => hne (congrArg Addr.block e).symm), World.cell?_setCell_other _ _ _ _ (fun e => hne (congrArg Addr.block e).symm)]
    exact h.2.2.out ad e j u hu
theorem flatO_of {w : World} {a : Option Addr} {es : List Ed} {m : Nat} (hm : es.length = m) (HC : 0 < m → ∃ b off, a = some ⟨b, off, none⟩ ∧ ∀ (j : Nat) e, es[j]? = some e → w.cell? ⟨b, off + j * 3, none⟩ = some (.int .i64 e.f) ∧ w.cell? ⟨b, off + j * 3 + 1, none⟩ = some (.int .i64 e.t) ∧ w.cell? ⟨b, off + j * 3 + 2, none⟩ = some (.int .u64 (e.w : Int))) : FlatO w a es := fun ad e j u hu => by
  have hj : j < (flat es).length := (List.getElem?_eq_some_iff.1 hu).1
  rw [flat_len] at hj
  obtain ⟨b, off, h1, h2⟩ := HC (by omega)
  rw [h1] at e
  obtain rfl := Option.some.inj e
  rw [Addr.add_lit]
  exact flat_of h2 j u hu
theorem owns_base {w : World} {base base' : Nat} {ty : TypeId} {sz n : Nat} {v : Value} {xs : List Value} (hle : base' ≤ base) (h : w.ownsRow base ty sz v n xs) : w.ownsRow base' ty sz v n xs := by
  refine ⟨h.1, ?_⟩
  rcases h.2 with h1 | ⟨g, cap, cur, h1, h2, h3⟩
  · exact .inl h1
  · exact .inr ⟨g, cap, cur, h1, by omega, h3⟩
set_option maxHeartbeats 1000000 in
/-- Clone: the same nodes, and the same edges in a row of the call's own. -/
theorem pclone_own (n : Int) (es : List Ed) (a : Option Addr) (m c : Nat) (hm : es.length = m) (hl : m ≤ 1000000) (w : World)
    (HC : 0 < m → ∃ b off, a = some ⟨b, off, none⟩ ∧ ∀ (j : Nat) e, es[j]? = some e → w.cell? ⟨b, off + j * 3, none⟩ = some (.int .i64 e.f) ∧ w.cell? ⟨b, off + j * 3 + 1, none⟩ = some (.int .i64 e.t) ∧ w.cell? ⟨b, off + j * 3 + 2, none⟩ = some (.int .u64 (e.w : Int))) :
    Calls Try.prog 15 #[.agg #[.int .i64 n, .slice a m c]] w fun e w' => ∃ a' c', e = .returned (.agg #[.int .i64 n, .slice a' m c']) ∧ w'.ownsRow w.heap.size 46 3 (.slice a' m c') m (flat es) ∧ Below w.heap.size w w' := by
  have hb := ((Below.refl w.heap.size w).alloc (Nat.le_refl _) (.cells #[.int .i64 n, .slice a m c] 24)).alloc (by simp) (.cells #[.int .i64 0, .slice none 0 0] 24)
  have HB := Lib.hid hb
  have HF0 := Lib.hid (flatO_of hm HC)
  have hao : 0 < m → ∃ ad, a = some ad := fun h => by obtain ⟨b, off, h1, _⟩ := HC h; exact ⟨_, h1⟩
  have HS0 : Hid (GC w.heap.size n a m c es ((w.alloc (.cells #[.int .i64 n, .slice a m c] 24)).alloc (.cells #[.int .i64 0, .slice none 0 0] 24)).drew) := Lib.hid ⟨by simp, by simp, Lib.hid fun ad e j u hu => cell_on hb.drew (HF0.out ad e j u hu)⟩
  obtain ⟨i0, hi, hz0, hz1, hz2⟩ := info_parts infoE
  have HFL : (flat es).length = m * 3 := by rw [flat_len, hm]
  have HML : m ≤ maxLen := by unfold maxLen; omega
  have HMB : m * 24 ≤ 140737488355328 := by omega
  have P1 : ((w.alloc (.cells #[.int .i64 n, .slice a m c] 24)).alloc (.cells #[.int .i64 0, .slice none 0 0] 24)).drew.cell? ⟨w.heap.size + 1, 0, none⟩ = some (.int .i64 0) := by simp
  have P2 : ((w.alloc (.cells #[.int .i64 n, .slice a m c] 24)).alloc (.cells #[.int .i64 0, .slice none 0 0] 24)).drew.cell? ⟨w.heap.size + 1, 1, none⟩ = some (.slice none 0 0) := by simp
  have P3 : ((w.alloc (.cells #[.int .i64 n, .slice a m c] 24)).alloc (.cells #[.int .i64 0, .slice none 0 0] 24)).drew.frozen? ⟨w.heap.size + 1, 0, none⟩ = false := by simp
  have P4 : ((w.alloc (.cells #[.int .i64 n, .slice a m c] 24)).alloc (.cells #[.int .i64 0, .slice none 0 0] 24)).drew.frozen? ⟨w.heap.size + 1, 1, none⟩ = false := by simp
  have hbase : w.heap.size + 2 ≤ ((w.alloc (.cells #[.int .i64 n, .slice a m c] 24)).alloc (.cells #[.int .i64 0, .slice none 0 0] 24)).drew.heap.size := by simp
  have hne1 : w.heap.size ≠ w.heap.size + 1 := by omega
  have hle1 : w.heap.size ≤ w.heap.size + 1 := by omega
  have h03 : 0 < 3 := by omega
  have HBd := Lib.hid hb.drew
  clear hb HC
  go_enter Try.func15, Try.ntmps15
  go_wp2
  go_region_held3 (fun w' => w'.cell? ⟨w.heap.size, 0, none⟩ = some (.int .i64 n) ∧ w'.cell? ⟨w.heap.size, 1, none⟩ = some (.slice a m c) ∧ Hid (FlatO w' a es))
    (first
      | exact HS0.out
      | exact GC.far hgrow ‹_›
      | exact GC.set2 hne1 HF0 hle1 ‹_›)
    ((refine step_append_fresh _ (by rfl) _ _ _ (by rfl) (w.heap.size + 2) 46 i0 _ 3 24 Try.underlying22 hi hz0 hz1 hz2 rfl h03 (by rfl) a m c (flat es) (by rfl) HFL hao (fun ad e j u hu => (show GC _ n a m c es _ from ‹_›).2.2.out ad e j u hu) (flat_one es) HML HMB hbase ?_; intro a' c' w2 hown hgrow; have p0 := far_cell hgrow (by simp) P1; have p1 := far_cell hgrow (by simp) P2; have p2 := far_frozen hgrow (by simp) P1 P3; have p3 := far_frozen hgrow (by simp) P2 P4))
  go_wp2
  have h2 := set2_cells p0 p1 (.int .i64 n) (.slice a' m c')
  have hB2 := HBd.out.grown hgrow (by simp; omega) (fun j hj => by cases hj)
  refine bodyPost_ret_by (resG rfl _ rfl h2.1 h2.2) rfl ⟨_, _, rfl, ?_, (hB2.setCell (by simp) _).setCell (by simp) _⟩
  exact owns_base (by omega) (owns_set (owns_set hown _ (show w.heap.size + 1 < w.heap.size + 2 by omega)) _ (show w.heap.size + 1 < w.heap.size + 2 by omega))
set_option maxHeartbeats 2000000 in
theorem peq_some (xs ys : List Ed) (b1 o1 c1 b2 o2 c2 m : Nat) (hx : xs.length = m) (hy : ys.length = m) (w : World)
    (h1 : Hid (∀ (j : Nat) e, xs[j]? = some e → w.cell? ⟨b1, o1 + j * 3, none⟩ = some (.int .i64 e.f) ∧ w.cell? ⟨b1, o1 + j * 3 + 1, none⟩ = some (.int .i64 e.t) ∧ w.cell? ⟨b1, o1 + j * 3 + 2, none⟩ = some (.int .u64 (e.w : Int))))
    (h2 : Hid (∀ (j : Nat) e, ys[j]? = some e → w.cell? ⟨b2, o2 + j * 3, none⟩ = some (.int .i64 e.f) ∧ w.cell? ⟨b2, o2 + j * 3 + 1, none⟩ = some (.int .i64 e.t) ∧ w.cell? ⟨b2, o2 + j * 3 + 2, none⟩ = some (.int .u64 (e.w : Int)))) (hl : m ≤ 4000000) :
    Calls Try.prog 33 #[.slice (some ⟨b1, o1, none⟩) m c1, .slice (some ⟨b2, o2, none⟩) m c2] w fun e w' => e = .returned (.bool (decide (xs = ys))) ∧ Below w.heap.size w w' := by
  go_enter Try.func33, Try.ntmps33
  go_wp2
  go_loopw [13] (fun i wr => ∃ k : Nat, k ≤ m ∧ i = .int .i64 k ∧ Hid (∀ j : Nat, j < k → xs[j]? = ys[j]?) ∧ Hid (Below w.heap.size w wr)) (fun i _ => m - (RowKit.intOf i).toNat)
  case atStart => exact ⟨0, by omega, rfl, Lib.hid fun j h => by omega, Lib.hid (Below.refl _ _)⟩
  case round =>
    obtain ⟨k, hk, rfl, HA, HB⟩ := hrel
    by_cases hlt : k < m
    · have hx0 : xs[k]? = some (xs[k]'(by omega)) := List.getElem?_eq_getElem (by omega)
      have hy0 : ys[k]? = some (ys[k]'(by omega)) := List.getElem?_eq_getElem (by omega)
      obtain ⟨⟨f1, t1, v1⟩, he1⟩ : ∃ x, xs[k]'(by omega) = x := ⟨_, rfl⟩
      obtain ⟨⟨f2, t2, v2⟩, he2⟩ : ∃ y, ys[k]'(by omega) = y := ⟨_, rfl⟩
      rw [he1] at hx0
      rw [he2] at hy0
      obtain ⟨p1, p2, p3⟩ := h1.out k _ hx0
      obtain ⟨q1, q2, q3⟩ := h2.out k _ hy0
      have p1' := cell_on HB.out p1
      have p2' := cell_on HB.out p2
      have p3' := cell_on HB.out p3
      have q1' := cell_on HB.out q1
      have q2' := cell_on HB.out q2
      have q3' := cell_on HB.out q3
      simp only at p1' p2' p3' q1' q2' q3'
      clear p1 p2 p3 q1 q2 q3 he1 he2
      by_cases ef : f1 = f2
      · by_cases et : t1 = t2
        · by_cases ev : v1 = v2
          · subst ef et ev
            have HN : Hid (∀ j : Nat, j < k + 1 → xs[j]? = ys[j]?) := Lib.hid fun j hj => by
              by_cases ej : j = k
              · rw [ej, hx0, hy0]
              · exact HA.out j (by omega)
            clear hx0 hy0
            go_wp2
            go_region
            all_goals go_wp2
            all_goals go_roundw
            case rel => exact ⟨k + 1, by omega, by go_num, HN, Lib.hid HB.out.drew⟩
            case measure => simp [RowKit.intOf] <;> omega
          · have hev : ¬ ((v1 : Int) = (v2 : Int)) := by omega
            subst ef et
            have HN : Hid (decide (xs = ys) = false) := Lib.hid (decide_eq_false fun e => by
              rw [e, hy0] at hx0
              injection hx0 with h
              injection h with a1 a2 a3
              exact ev a3.symm)
            clear hx0 hy0
            go_wp2
            go_region
            all_goals go_wp2
            all_goals go_ret
            all_goals exact ⟨by rw [HN.out]; rfl, HB.out.drew⟩
        · subst ef
          have HN : Hid (decide (xs = ys) = false) := Lib.hid (decide_eq_false fun e => by
            rw [e, hy0] at hx0
            injection hx0 with h
            injection h with a1 a2 a3
            exact et a2.symm)
          clear hx0 hy0
          go_wp2
          go_region
          all_goals go_wp2
          all_goals go_ret
          all_goals exact ⟨by rw [HN.out]; rfl, HB.out.drew⟩
      · have HN : Hid (decide (xs = ys) = false) := Lib.hid (decide_eq_false fun e => by
          rw [e, hy0] at hx0
          injection hx0 with h
          injection h with a1 a2 a3
          exact ef a1.symm)
        clear hx0 hy0
        go_wp2
        go_region
        all_goals go_wp2
        all_goals go_ret
        all_goals exact ⟨by rw [HN.out]; rfl, HB.out.drew⟩
    · obtain rfl : k = m := by omega
      have HN : Hid (decide (xs = ys) = true) := Lib.hid (decide_eq_true (List.ext_getElem? fun j => by
        by_cases hj : j < k
        · exact HA.out j hj
        · rw [List.getElem?_eq_none (by omega), List.getElem?_eq_none (by omega)]))
      go_wp2
      go_ret
      exact ⟨by rw [HN.out]; rfl, HB.out⟩
theorem peq_len (a1 a2 : Option Addr) (m1 m2 c1 c2 : Nat) (h : m1 ≠ m2) (w : World) :
    Calls Try.prog 33 #[.slice a1 m1 c1, .slice a2 m2 c2] w fun e w' => e = .returned (.bool false) ∧ Below w.heap.size w w' := by
  have hm : ((m1 : Int) != (m2 : Int)) = true := by rw [bne_iff_ne]; omega
  go_enter Try.func33, Try.ntmps33
  go_wp2
  go_ret
  exact ⟨rfl, Below.refl _ _⟩
theorem peq_none (a1 a2 : Option Addr) (c1 c2 : Nat) (w : World) :
    Calls Try.prog 33 #[.slice a1 0 c1, .slice a2 0 c2] w fun e w' => e = .returned (.bool true) ∧ Below w.heap.size w w' := by
  go_enter Try.func33, Try.ntmps33
  go_wp2
  refine wp_loop_rounds 1 ?_
  rw [rounds_succ]
  go_wp2
  go_ret
  exact ⟨rfl, Below.refl _ _⟩
theorem peq_any {v1 v2 : Value} {xs ys : List Ed} (hl : xs.length ≤ 4000000) (w : World) (h1 : EdgesAt w v1 xs) (h2 : EdgesAt w v2 ys) :
    Calls Try.prog 33 #[v1, v2] w fun e w' => e = .returned (.bool (decide (xs = ys))) ∧ Below w.heap.size w w' := by
  obtain ⟨a1, c1, rfl, _, g1⟩ := h1
  obtain ⟨a2, c2, rfl, _, g2⟩ := h2
  by_cases hlen : xs.length = ys.length
  · by_cases h0 : xs.length = 0
    · have e1 := List.length_eq_zero_iff.1 h0
      have e2 := List.length_eq_zero_iff.1 (hlen ▸ h0 : ys.length = 0)
      subst e1 e2
      exact peq_none a1 a2 c1 c2 w
    · obtain ⟨b1, o1, rfl, k1⟩ := g1 (by omega)
      obtain ⟨b2, o2, rfl, k2⟩ := g2 (by omega)
      rw [← hlen]
      exact peq_some xs ys b1 o1 c1 b2 o2 c2 _ rfl hlen.symm w (Lib.hid k1) (Lib.hid k2) hl
  · have e : decide (xs = ys) = false := decide_eq_false fun h => hlen (by rw [h])
    rw [e]
    exact peq_len a1 a2 _ _ c1 c2 hlen w
set_option maxHeartbeats 1000000 in
theorem psame_any (n1 n2 : Int) {v1 v2 : Value} {xs ys : List Ed} (hl : xs.length ≤ 4000000) (w : World) (h1 : EdgesAt w v1 xs) (h2 : EdgesAt w v2 ys) :
    Calls Try.prog 13 #[.agg #[.int .i64 n1, v1], .agg #[.int .i64 n2, v2]] w fun e w' => e = .returned (.bool (decide (n1 = n2 ∧ xs = ys))) ∧ Below w.heap.size w w' := by
  have hb := ((Below.refl w.heap.size w).alloc (Nat.le_refl _) (.cells #[.int .i64 n1, v1] 24)).alloc (by simp) (.cells #[.int .i64 n2, v2] 24)
  have HC := Lib.hid (peq_any hl _ (h1.on hb) (h2.on hb))
  have HB := Lib.hid hb
  obtain ⟨a1, c1, rfl, _, _⟩ := h1
  obtain ⟨a2, c2, rfl, _, _⟩ := h2
  by_cases hn : n1 = n2
  · have e : decide (n1 = n2 ∧ xs = ys) = decide (xs = ys) := by simp [hn]
    rw [e]
    generalize decide (xs = ys) = r at HC ⊢
    subst hn
    clear hb e
    go_enter Try.func13, Try.ntmps13
    go_wp2_with (go_at_call 33; refine HC.out.mono ?_; rintro e w1 ⟨rfl, hB⟩; have HB1 := Lib.hid (HB.out.trans (hB.mono HB.out.size)); clear hB)
    go_ret
    exact ⟨rfl, HB1.out⟩
  · have e : decide (n1 = n2 ∧ xs = ys) = false := decide_eq_false fun h => hn h.1
    have hq : (n1 == n2) = false := by rw [beq_eq_false_iff_ne]; exact hn
    rw [e]
    clear hb e hn HC
    go_enter Try.func13, Try.ntmps13
    go_wp2
    go_ret
    exact ⟨rfl, HB.out⟩
end Go.Proofs.Ytcgijabnknemiaa
