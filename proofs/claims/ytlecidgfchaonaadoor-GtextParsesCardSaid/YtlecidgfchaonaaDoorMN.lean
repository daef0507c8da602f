import Derived.Test.YtlecidgfchaonaaDoorRows
import Derived.WalkKit
import Derived.ProofKit
import Derived.OpenShut
import Derived.Carry
import Derived.Test.YtlecidgfchaonaaDoorCards
import Derived.Test.YtlecidgfchaonaaDoorTie
import Derived.Test.YtlecidgfchaonaaDoorMB
import Derived.Deep.DeepHandedRow
import Derived.Lib.LaidTab
import Derived.LaidSub
import Derived.Test.YtlecidgfchaonaaDoorMG
import Derived.LaidLaws
import Derived.SizedLaws
import Derived.Deep.Slices
import Derived.ChangeArms
import Derived.Lib.SmallJoins
import Derived.Test.YtlecidgfchaonaaDoorMD
import Derived.SliceStrings
set_option linter.unusedVariables false
namespace Go.Proofs.YtlecidgfchaonaaDoor
open Go.ChangeShapes Go.WideShapes Go.ChangeAt Go.RowKit

/-- May every one of these types be read again? -/
def againB (P : Program) (ts : List TypeId) : Bool := ts.all fun t => P.readableRec t && decide (t < P.types.size)

theorem trodAll_stays {H : Type} {enc : TypeId × Value → H} {P : Program} (hl : laidOutB P = true) {W W' : World} (hb : Below W.heap.size W W') :
    ∀ {ts : List TypeId} {vs : List Value} {ds : List (DataW H)} {p : List MemPlace}, againB P ts = true → (∀ x ∈ p, x.block < W.heap.size) →
      DataW.TrodAll enc P W 0 (fun _ => true) true ts vs ds p → DataW.TrodAll enc P W' 0 (fun b => decide (b < W.heap.size)) true ts vs ds p
  | [], _, _, _, _, _, h => by
    obtain ⟨rfl, rfl, rfl⟩ := trodAll_nil h
    exact trodAll_mk0
  | t :: ts, _, _, _, hr, hp, h => by
    obtain ⟨v, vs', d, ds', p, q, rfl, rfl, rfl, hd, hrest⟩ := trodAll_cons h
    have hr' : (P.readableRec t && decide (t < P.types.size)) = true ∧ againB P ts = true := by
      unfold againB at hr ⊢; rw [List.all_cons, Bool.and_eq_true] at hr; exact hr
    obtain ⟨h1, h2⟩ := hr'
    rw [Bool.and_eq_true] at h1
    exact trodAll_cons_mk (Below.trod hl h1.1 (of_decide_eq_true h1.2) hd hb (fun x hx => hp x (List.mem_append_left _ hx)))
      (trodAll_stays hl hb h2 (fun x hx => hp x (List.mem_append_right _ hx)) hrest)

/-- A LAW THAT ANSWERS true AND WRITES NOTHING THAT WAS THERE: what its row asks behind the call. -/
theorem law_post {H : Type} {enc : TypeId × Value → H} {P : Program} {f : Func} {s : ChangeSpec} {W W' : World} {args : Array Value} {ds gs : List (DataW H)} {before : List MemPlace} {tb : TypeId}
    (hl : laidOutB P = true) (hr : againB P f.params.toList = true) (hrt : f.resultTypes = #[tb]) (hbt : P.underlying tb = some .bool) (hv : s.vars = [])
    (hW : DataW.Whole enc P f.params.toList s.vars false W args.toList ds gs before)
    (hfn : s.fn H (ds ++ gs) = { results := [.lit (.bool true)], args := ds }) (hb : Below W.heap.size W W') :
    s.post enc P f false true false false W args (.bool true) W' := by
  have hW' := hW
  obtain ⟨p, q, hA, hV, rfl, hfz, hnd⟩ := hW
  have hold : ∀ x ∈ p ++ q, x.block < W.heap.size := fun x hx => by simpa using hW'.lt x hx
  have hV0 := hV
  rw [hv] at hV0
  obtain ⟨rfl, rfl⟩ := trodVars_none hV0
  refine ⟨ds, [], p ++ [], [], p, [], hW', ?_, ?_, ?_, hb.frame _, fun h => by cases h⟩
  · rw [hfn, hrt]
    exact trodAll_mk1 (shut_bool hbt _)
  · rw [hfn]
    exact trodAll_stays hl hb hr (fun x hx => hold x (List.mem_append_left _ hx)) hA
  · rw [hfn, hv]
    rfl
end Go.Proofs.YtlecidgfchaonaaDoor

namespace Go.Proofs.YtlecidgfchaonaaDoor
open Go.ChangeShapes Go.WideShapes Go.ChangeAt Go.RowKit

theorem own : ownKnob Tryd.prog.godebug = none := by kernel_rfl
theorem laidOut : laidOutB Tryd.prog = true := by kernel_rfl

/-- The cells of a table, out of its datum. -/
def tabCells : DataW Unit → Array Value
  | .agg l => (l.map fun | .lit (.int k n) => Value.int k n | _ => undef).toArray
  | _ => #[]
def putTab (d : DataW Unit) : Obj → Obj
  | .cells _ t frozen => .cells (tabCells d) t frozen
  | o => o
/-- A WORLD FOR THE WITNESS: the settled one, the tables holding what their initialisers lay. -/
noncomputable def laidWorld (os : Os) : World :=
  { World.holding Tryd.prog os ⟨#[], #[], []⟩ with heap := (((World.holding Tryd.prog os ⟨#[], #[], []⟩).heap.modify 1 (putTab Rows.laid_internal_strconv_uint64pow10)).modify 2 (putTab Rows.laid_math_bits_deBruijn32tab)).modify 3 (putTab Rows.laid_math_bits_deBruijn64tab) }

/-- WHAT THE ROW's LIST GIVES: the table of powers of ten. -/
theorem gTabType : (Tryd.prog.globals[1]?).map (·.type) = some 109 := by kernel_rfl
theorem cells54 : Tryd.prog.cellsOf 109 = 20 := by kernel_rfl
theorem cells22 : Tryd.prog.cellsOf 41 = 1 := by kernel_rfl
theorem pow10_of {l : List (String × DataW Unit)} {W : World} (h : laidMetH Tryd.prog l W) (hl : l.filter (fun x => x.1 == "internal/strconv.uint64pow10") = [("internal/strconv.uint64pow10", Lib.tabData .u64 Lib.pow10Tab)]) : Pow10 W := by
  have h1 := h.filter (fun x => x.1 == "internal/strconv.uint64pow10")
  rw [hl] at h1
  exact Lib.tabIs_of_head (rest := []) gTab gTabType Tryd.underlying109 Tryd.underlying41 cells22 cells54 h1
end Go.Proofs.YtlecidgfchaonaaDoor

namespace Go.Proofs.YtlecidgfchaonaaDoor
open Go.ChangeShapes Go.WideShapes Go.ChangeAt Go.RowKit
theorem cellsGraph : Tryd.prog.cellsOf 24 = 2 := by kernel_rfl
theorem cellsEdge : Tryd.prog.cellsOf 43 = 3 := by kernel_rfl
theorem cellsInt : Tryd.prog.cellsOf 3 = 1 := by kernel_rfl
theorem cellsU64 : Tryd.prog.cellsOf 41 = 1 := by kernel_rfl
set_option maxRecDepth 20000 in
/-- A []Edge among the arguments reads as edges. -/
theorem edges_of {H : Type} {enc : TypeId × Value → H} {W : World} {base : Nat} {spare : Nat → Bool} {held : Bool} {v : Value} {x : DataW H × List MemPlace} {fuel : Nat}
    (hf : DataW.trod enc Tryd.prog W base spare held fuel 22 [v] = some x) : ∃ es : List Ed, EdgesAt W v es := by
  rcases Go.Deep.open_slice Tryd.underlying22 hf with ⟨hcs, _⟩ | ⟨a, len, cap, m, n, D, Pl, hcs, _, hl, _, hm, _, hx⟩
  · obtain rfl := List.singleton_inj.1 hcs
    exact ⟨[], edges_nil W⟩
  · obtain rfl := List.singleton_inj.1 hcs
    have hlm : len ≤ m := by rw [hm]; split <;> omega
    have each : ∀ i, i < m → ∃ e : Ed, W.cell? (a.add (i * 3)) = some (.int .i64 e.f) ∧ W.cell? ((a.add (i * 3)).add 1) = some (.int .i64 e.t) ∧ W.cell? ((a.add (i * 3)).add 2) = some (.int .u64 (e.w : Int)) := by
      intro i hi
      obtain ⟨cs', h1, h2⟩ := hx i hi
      rw [cellsEdge] at h1
      obtain ⟨_, hlen, hcell⟩ := World.cells?_some h1
      obtain ⟨xs, k, _, _, _, hxl, hfl⟩ := DataW.trod_struct Tryd.underlying43 h2
      match xs, hxl, cs', hlen with
      | [y0, y1, y2], _, [v0, v1, v2], _ =>
        have g0 := hfl 0 _ rfl
        have g1 := hfl 1 _ rfl
        have g2 := hfl 2 _ rfl
        simp [cellsInt, cellsU64] at g0 g1 g2
        obtain ⟨z0, e0, _, w0⟩ := DataW.trod_int Tryd.underlying3 g0
        obtain ⟨z1, e1, _, w1⟩ := DataW.trod_int Tryd.underlying3 g1
        obtain ⟨z2, e2, _, w2⟩ := DataW.trod_int Tryd.underlying41 g2
        obtain rfl := List.singleton_inj.1 e0
        obtain rfl := List.singleton_inj.1 e1
        obtain rfl := List.singleton_inj.1 e2
        have hz : 0 ≤ z2 := by simp [Lit.wf, IntKind.min, IntKind.max, IntKind.signed, IntKind.bits] at w2; omega
        have c0 := hcell 0 (by omega)
        have c1 := hcell 1 (by omega)
        have c2 := hcell 2 (by omega)
        refine ⟨⟨z0, z1, z2.toNat⟩, by simpa [Addr.add] using c0, by simpa using c1, ?_⟩
        rw [show ((z2.toNat : Nat) : Int) = z2 by omega]
        simpa using c2
    haveI : Inhabited Ed := ⟨⟨0, 0, 0⟩⟩
    obtain ⟨q, hq⟩ := Go.Deep.choose_lt each
    refine ⟨(List.range len).map q, some a, cap, by simp, by simpa using hl, fun h0 => ?_⟩
    have h0' : 0 < len := by simpa using h0
    obtain ⟨b, off, spot⟩ := a
    have hspot : spot = none := by
      have := World.cell?_spot (hq 0 (by omega)).1
      simpa [Addr.add] using this
    subst hspot
    refine ⟨b, off, rfl, fun j e he => ?_⟩
    have hj : j < len := by have := (List.getElem?_eq_some_iff.1 he).1; simpa using this
    rw [List.getElem?_map, List.getElem?_range hj] at he
    obtain rfl := Option.some.inj he
    have := hq j (by omega)
    simpa [Go.WideShapes.add_plain] using this
end Go.Proofs.YtlecidgfchaonaaDoor

namespace Go.Proofs.YtlecidgfchaonaaDoor
open Go.ChangeShapes Go.WideShapes Go.ChangeAt Go.RowKit
theorem cells9 : Tryd.prog.cellsOf 9 = 1 := by kernel_rfl
/-- A []string among the arguments reads as strings. -/
theorem strs_of {H : Type} {enc : TypeId × Value → H} {W : World} {base : Nat} {spare : Nat → Bool} {held : Bool} {v : Value} {d : DataW H} {p : List MemPlace} {fuel : Nat}
    (hf : DataW.trod enc Tryd.prog W base spare held fuel 27 v.cells.toList = some (d, p)) (a0 : Option Addr) (len cap : Nat) (hv : v = .slice a0 len cap) :
    ∃ xs : List ByteArray, StrsAt W v xs ∧ (∀ x ∈ xs, x.size ≤ maxLen) ∧ xs.length ≤ maxLen := by
  subst hv
  rcases open_strings Tryd.underlying27 Tryd.underlying9 cells9 hf with ⟨hcs, _⟩ | ⟨a, len', cap', ss, hcs, _, hl, hm, hz, _, hcell, hsz⟩
  · simp [Value.cells] at hcs
    obtain ⟨rfl, rfl, rfl⟩ := hcs
    exact ⟨[], StrsAt.none _ _ _, by simp, by simp⟩
  · simp [Value.cells] at hcs
    obtain ⟨rfl, rfl, rfl⟩ := hcs
    have hlen : len ≤ ss.length := by
      rw [hz]; split <;> omega
    refine ⟨ss.take len, ⟨some a, cap, by rw [List.length_take, Nat.min_eq_left hlen], by rw [List.length_take]; omega, fun h0 => ?_⟩, fun x hx => hsz x (List.mem_of_mem_take hx), by rw [List.length_take]; omega⟩
    rw [List.length_take] at h0
    obtain ⟨b, off, spot⟩ := a
    have hspot : spot = none := by simpa [Addr.add] using World.cell?_spot (hcell 0 (by omega))
    subst hspot
    refine ⟨b, off, rfl, fun j x hx => ?_⟩
    rw [List.getElem?_take] at hx
    split at hx
    · rename_i hj
      have hj' : j < ss.length := by omega
      have h2 := hcell j hj'
      rw [Go.WideShapes.add_plain] at h2
      rw [h2, List.getD_eq_getElem?_getD, hx]
      rfl
    · cases hx
end Go.Proofs.YtlecidgfchaonaaDoor
