import Derived.Test.YtpbjknhoiehonaaGraZb
import Derived.Test.YtpbjknhoiehonaaGraM
set_option linter.unusedVariables false
set_option linter.unusedSimpArgs false
namespace Go.Proofs.Ytpbjknhoiehonaa
open Go.RowKit
attribute [local go_sem ↓] Go.wp_at_zero Go.wp_at_succ
/-- append onto nil, of however many (none too): the new row is the call's own. -/
theorem run_append_fresh {P : Program} (w : World) (t ty : TypeId) (base : Nat) (e : TypeId) (i : TypeInfo) (z : Value) (size bytes : Nat) (ht : P.underlying t = some (.slice e)) (hi : P.info? e = some i) (hz : i.zero = some z)
    (hsize : i.size = size) (hby : i.bytes = bytes) (hzs : z.cells.size = size) (hsz : 0 < size)
    (ao : Option Addr) (m c : Nat) (news : List Value) (hl : news.length = m * size) (hao : 0 < m → ∃ ad, ao = some ad) (hnews : ∀ ad, ao = some ad → ∀ j u, news[j]? = some u → w.cell? (ad.add j) = some u) (h1 : ∀ u ∈ news, u.oneCell' = true)
    (h63 : m ≤ maxLen) (hbytes : m * bytes ≤ 140737488355328) (hbase : base ≤ w.heap.size) :
    ∃ a' c' w', (Builtin.append_ #[t, t] ty #[.slice none 0 0, .slice ao m c]).run P w = .ok (.slice a' m c') w' ∧ w'.ownsRow base e size (.slice a' m c') m news ∧ w.grownBy w' none := by
  by_cases hm : m = 0
  · subst hm
    have hn : news = [] := List.eq_nil_of_length_eq_zero (by simpa using hl)
    subst hn
    refine ⟨none, 0, w, ?_, World.ownsRow_nil w base e size, ⟨rfl, rfl, rfl, Nat.le_refl _, fun _ _ _ => rfl⟩⟩
    cases ao <;> simp [Builtin.append_, run_underlying ht, sizeOf, typeInfo, hi, Builtin.lenOf, Builtin.firstCells, loadCells, loadCellsFrom]
  · obtain ⟨ad, rfl⟩ := hao (by omega)
    obtain ⟨g, cap, w', hr, h2, h3, _, _⟩ := run_append_lies (P := P) w t ty base e i z size bytes ht hi hz hsize hby hzs hsz (.slice none 0 0) 0 [] (World.ownsRow_nil w base e size) ad m c news hl (hnews ad rfl) h1 (by omega) (by omega) (by rw [Nat.zero_add]; exact hbytes) hbase _ rfl
    rw [Nat.zero_add, List.nil_append] at h2
    rw [Nat.zero_add] at hr
    exact ⟨_, cap, w', hr, h2, h3⟩
theorem step_append_fresh {P : Program} (w : World) {ops : Array Oper} {o : Oper} {a : Act} {K : Act → World → Prop} {Q : Exit → Act → World → Prop} {E : Prop} (hgd : o.guard = none) (s x : Operand) (t : TypeId)
    (ho : o.op = .call { callee := .builtin .append, args := #[s, x], argTypes := #[t, t] })
    (base : Nat) (e : TypeId) (i : TypeInfo) (z : Value) (size bytes : Nat) (ht : P.underlying t = some (.slice e)) (hi : P.info? e = some i) (hz : i.zero = some z)
    (hsize : i.size = size) (hby : i.bytes = bytes) (hzs : z.cells.size = size) (hsz : 0 < size) (hs : a.eval s = .slice none 0 0)
    (ao : Option Addr) (m c : Nat) (news : List Value) (hx : a.eval x = .slice ao m c) (hl : news.length = m * size) (hao : 0 < m → ∃ ad, ao = some ad) (hnews : ∀ ad, ao = some ad → ∀ j u, news[j]? = some u → w.cell? (ad.add j) = some u) (h1 : ∀ u ∈ news, u.oneCell' = true)
    (h63 : m ≤ maxLen) (hbytes : m * bytes ≤ 140737488355328) (hbase : base ≤ w.heap.size)
    (h : ∀ a' c' w', w'.ownsRow base e size (.slice a' m c') m news → w.grownBy w' none → K (a.put o.dst (.slice a' m c')) w') :
    if Region.wanted o (yielded ops a.tmps) = true then Oper.wp P o a w K Q else E := by
  have hw : Region.wanted o (yielded ops a.tmps) = true := by simp [Region.wanted, hgd]
  rw [if_pos hw]
  obtain ⟨a', c', w', hr, h2, h3⟩ := run_append_fresh (P := P) w t o.type base e i z size bytes ht hi hz hsize hby hzs hsz ao m c news hl hao hnews h1 h63 hbytes hbase
  unfold Oper.wp execOp
  simp only [ho, resolve, invoke, builtin, Sem.run_bind, Sem.run_pure, Result.andThen_ok, List.map_toArray, List.map_cons, List.map_nil, hs, hx, hr]
  exact h a' c' w' h2 h3
/-- The cells of edges lie where the slice points, if it does. -/
def FlatO (w : World) (a : Option Addr) (es : List Ed) : Prop := ∀ ad, a = some ad → ∀ j u, (flat es)[j]? = some u → w.cell? (ad.add j) = some u
/-- A graph's two cells, and its edges. -/
def GC (B : Nat) (n : Int) (a : Option Addr) (m c : Nat) (es : List Ed) (w : World) : Prop := w.cell? ⟨B, 0, none⟩ = some (.int .i64 n) ∧ w.cell? ⟨B, 1, none⟩ = some (.slice a m c) ∧ Hid (FlatO w a es)
theorem GC.on {B : Nat} {n : Int} {a : Option Addr} {m c : Nat} {es : List Ed} {W w1 : World} (hb : Below W.heap.size W w1) (h : GC B n a m c es W) : GC B n a m c es w1 :=
  ⟨cell_on hb h.1, cell_on hb h.2.1, Lib.hid fun ad e j u hu => cell_on hb (h.2.2.out ad e j u hu)⟩
theorem GC.far {B : Nat} {n : Int} {a : Option Addr} {m c : Nat} {es : List Ed} {W w1 : World} (hg : W.grownBy w1 none) (h : GC B n a m c es W) : GC B n a m c es w1 :=
  ⟨far_cell hg (by simp) h.1, far_cell hg (by simp) h.2.1, Lib.hid fun ad e j u hu => far_cell hg (by simp) (h.2.2.out ad e j u hu)⟩
theorem GC.set2 {B : Nat} {n : Int} {a : Option Addr} {m c : Nat} {es : List Ed} {W w0 : World} {R i j : Nat} {u v : Value} (hB : B ≠ R) (h0 : Hid (FlatO w0 a es)) (hR : w0.heap.size ≤ R) (h : GC B n a m c es W) : GC B n a m c es ((W.setCell ⟨R, i, none⟩ u).setCell ⟨R, j, none⟩ v) := by
  refine ⟨?_, ?_, Lib.hid fun ad e j u hu => ?_⟩
  · rw [World.cell?_setCell_other _ _ _ _ (fun e => hB (congrArg Addr.block e).symm), World.cell?_setCell_other _ _ _ _ (fun e => hB (congrArg Addr.block e).symm)]; exact h.1
  · rw [World.cell?_setCell_other _ _ _ _ (fun e => hB (congrArg Addr.block e).symm), World.cell?_setCell_other _ _ _ _ (fun e => hB (congrArg Addr.block e).symm)]; exact h.2.1
  · have hlt := World.block_lt_of_cell? w0 _ (h0.out ad e j u hu)
    have hne : (ad.add j).block ≠ R := by omega
    rw [World.cell?_setCell_other _ _ _ _ (fun e => hne (congrArg Addr.block e).symm), World.cell?_setCell_other _ _ _ _ (fun e => hne (congrArg Addr.block e).symm)]
    exact h.2.2.out ad e j u hu
theorem flatO_of {w : World} {a : Option Addr} {es : List Ed} {m : Nat} (hm : es.length = m) (HC : 0 < m → ∃ b off, a = some ⟨b, off, none⟩ ∧ ∀ (j : Nat) e, es[j]? = some e → w.cell? ⟨b, off + j * 3, none⟩ = some (.int .i64 e.f) ∧ w.cell? ⟨b, off + j * 3 + 1, none⟩ = some (.int .i64 e.t) ∧ w.cell? ⟨b, off + j * 3 + 2, none⟩ = some (.int .u64 (e.w : Int))) : FlatO w a es := fun ad e j u hu => by
  have hj : j < (flat es).length := (List.getElem?_eq_some_iff.1 hu).1
  rw [flat_len] at hj
  obtain ⟨b, off, h1, h2⟩ := HC (by omega)
  rw [h1] at e
  obtain rfl := Option.some.inj e
  rw [Addr.add_lit]
  exact flat_of h2 j u hu
theorem owns_base {w : World} {base base' : Nat} {ty : TypeId} {sz n : Nat} {v : Value} {xs : List Value} (hle : base' ≤ base) (h : w.ownsRow base ty sz v n xs) : w.ownsRow base' ty sz v n xs := by
  refine ⟨h.1, ?_⟩
  rcases h.2 with h1 | ⟨g, cap, cur, h1, h2, h3⟩
  · exact .inl h1
  · exact .inr ⟨g, cap, cur, h1, by omega, h3⟩
set_option maxHeartbeats 1000000 in
/-- Clone: the same nodes, and the same edges in a row of the call's own. -/
theorem pclone_own (n : Int) (es : List Ed) (a : Option Addr) (m c : Nat) (hm : es.length = m) (hl : m ≤ 1000000) (w : World)
    (HC : 0 < m → ∃ b off, a = some ⟨b, off, none⟩ ∧ ∀ (j : Nat) e, es[j]? = some e → w.cell? ⟨b, off + j * 3, none⟩ = some (.int .i64 e.f) ∧ w.cell? ⟨b, off + j * 3 + 1, none⟩ = some (.int .i64 e.t) ∧ w.cell? ⟨b, off + j * 3 + 2, none⟩ = some (.int .u64 (e.w : Int))) :
    Calls Try.prog 23 #[.agg #[.int .i64 n, .slice a m c]] w fun e w' => ∃ a' c', e = .returned (.agg #[.int .i64 n, .slice a' m c']) ∧ w'.ownsRow w.heap.size 36 3 (.slice a' m c') m (flat es) ∧ Below w.heap.size w w' := by
  have hb := ((Below.refl w.heap.size w).alloc (Nat.le_refl _) (.cells #[.int .i64 n, .slice a m c] 24)).alloc (by simp) (.cells #[.int .i64 0, .slice none 0 0] 24)
  have HB := Lib.hid hb
  have HF0 := Lib.hid (flatO_of hm HC)
  have hao : 0 < m → ∃ ad, a = some ad := fun h => by obtain ⟨b, off, h1, _⟩ := HC h; exact ⟨_, h1⟩
  have HS0 : Hid (GC w.heap.size n a m c es ((w.alloc (.cells #[.int .i64 n, .slice a m c] 24)).alloc (.cells #[.int .i64 0, .slice none 0 0] 24)).drew) := Lib.hid ⟨by simp, by simp, Lib.hid fun ad e j u hu => cell_on hb.drew (HF0.out ad e j u hu)⟩
  obtain ⟨i0, hi, hz0, hz1, hz2⟩ := info_parts infoE
  have HFL : (flat es).length = m * 3 := by rw [flat_len, hm]
  have HML : m ≤ maxLen := by unfold maxLen; omega
  have HMB : m * 24 ≤ 140737488355328 := by omega
  have P1 : ((w.alloc (.cells #[.int .i64 n, .slice a m c] 24)).alloc (.cells #[.int .i64 0, .slice none 0 0] 24)).drew.cell? ⟨w.heap.size + 1, 0, none⟩ = some (.int .i64 0) := by simp
  have P2 : ((w.alloc (.cells #[.int .i64 n, .slice a m c] 24)).alloc (.cells #[.int .i64 0, .slice none 0 0] 24)).drew.cell? ⟨w.heap.size + 1, 1, none⟩ = some (.slice none 0 0) := by simp
  have P3 : ((w.alloc (.cells #[.int .i64 n, .slice a m c] 24)).alloc (.cells #[.int .i64 0, .slice none 0 0] 24)).drew.frozen? ⟨w.heap.size + 1, 0, none⟩ = false := by simp
  have P4 : ((w.alloc (.cells #[.int .i64 n, .slice a m c] 24)).alloc (.cells #[.int .i64 0, .slice none 0 0] 24)).drew.frozen? ⟨w.heap.size + 1, 1, none⟩ = false := by simp
  have hbase : w.heap.size + 2 ≤ ((w.alloc (.cells #[.int .i64 n, .slice a m c] 24)).alloc (.cells #[.int .i64 0, .slice none 0 0] 24)).drew.heap.size := by simp
  have hne1 : w.heap.size ≠ w.heap.size + 1 := by omega
  have hle1 : w.heap.size ≤ w.heap.size + 1 := by omega
  have h03 : 0 < 3 := by omega
  have HBd := Lib.hid hb.drew
  clear hb HC
  go_enter Try.func23, Try.ntmps23
  go_wp2
  go_region_held3 (fun w' => w'.cell? ⟨w.heap.size, 0, none⟩ = some (.int .i64 n) ∧ w'.cell? ⟨w.heap.size, 1, none⟩ = some (.slice a m c) ∧ Hid (FlatO w' a es))
    (first
      | exact HS0.out
      | exact GC.far hgrow ‹_›
      | exact GC.set2 hne1 HF0 hle1 ‹_›)
    ((refine step_append_fresh _ (by rfl) _ _ _ (by rfl) (w.heap.size + 2) 36 i0 _ 3 24 Try.underlying22 hi hz0 hz1 hz2 rfl h03 (by rfl) a m c (flat es) (by rfl) HFL hao (fun ad e j u hu => (show GC _ n a m c es _ from ‹_›).2.2.out ad e j u hu) (flat_one es) HML HMB hbase ?_; intro a' c' w2 hown hgrow; have p0 := far_cell hgrow (by simp) P1; have p1 := far_cell hgrow (by simp) P2; have p2 := far_frozen hgrow (by simp) P1 P3; have p3 := far_frozen hgrow (by simp) P2 P4))
  go_wp2
  have h2 := set2_cells p0 p1 (.int .i64 n) (.slice a' m c')
  have hB2 := HBd.out.grown hgrow (by simp; omega) (fun j hj => by cases hj)
  refine bodyPost_ret_by (resG rfl _ rfl h2.1 h2.2) rfl ⟨_, _, rfl, ?_, (hB2.setCell (by simp) _).setCell (by simp) _⟩
  exact owns_base (by omega) (owns_set (owns_set hown _ (show w.heap.size + 1 < w.heap.size + 2 by omega)) _ (show w.heap.size + 1 < w.heap.size + 2 by omega))
end Go.Proofs.Ytpbjknhoiehonaa
