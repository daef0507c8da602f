import Derived.Test.YtmhekahfgmmeaaaDoorCards
import Derived.Test.YtmhekahfgmmeaaaDoorTie
import Derived.Test.YtmhekahfgmmeaaaDoorCodO
import Derived.Test.YtmhekahfgmmeaaaDoorCodS
import Derived.WalkKit
import Derived.ProofKit
import Derived.OpenShut
import Derived.Deep.DeepHandedRow
import Derived.Lib.LaidTab
import Derived.LaidSub
import Derived.LaidHandle
import Derived.LaidLaws
import Derived.SizedLaws
set_option linter.unusedVariables false
namespace Go.Proofs.YtmhekahfgmmeaaaDoor
open Go.ChangeShapes Go.WideShapes Go.ChangeAt Go.RowKit
theorem own : ownKnob Tryd.prog.godebug = none := by kernel_rfl
theorem laidOut : laidOutB Tryd.prog = true := by kernel_rfl
/-- An array of strings that reads as these holds them. -/
theorem strs_at {H : Type} {enc : TypeId × Value → H} {P : Program} {w : World} {base : Nat} {sp : Nat → Bool} {held : Bool} {fuel : Nat} {t e : TypeId} {n : Nat} {cs : List Value} {xs : List ByteArray} {p : List MemPlace}
    (ht : P.underlying t = some (.array n e)) (he : P.underlying e = some .string) (hce : P.cellsOf e = 1) (hct : P.cellsOf t = n)
    (h : DataW.trod enc P w base sp held fuel t cs = some (.agg (xs.map fun s => .lit (.string s.data.toList)), p)) (i : Nat) (x : ByteArray) (hx : xs[i]? = some x) : cs[i]? = some (.string x) := by
  cases fuel with
  | zero => simp [DataW.trod] at h
  | succ m =>
    simp only [DataW.trod, ht, hce, hct, Nat.mul_one] at h
    split at h
    · obtain ⟨ys, hm, hy⟩ := Option.map_eq_some_iff.1 h
      have hd : ys.map (·.1) = xs.map fun s => (DataW.lit (.string s.data.toList) : DataW H) := by
        have := congrArg Prod.fst hy
        simpa using this
      have hyi : (ys.map (·.1))[i]? = some (DataW.lit (.string x.data.toList) : DataW H) := by rw [hd, List.getElem?_map, hx]; rfl
      rw [List.getElem?_map, Option.map_eq_some_iff] at hyi
      obtain ⟨y, hyi, hyd⟩ := hyi
      have hn : i < n := by
        have h1 := Lib.mapM_length hm
        have h2 := (List.getElem?_eq_some_iff.1 hyi).1
        simp at h1
        omega
      obtain ⟨y', hy', hf⟩ := Lib.mapM_at hm i i (by simp [hn])
      obtain rfl := Option.some.inj (hyi.symm.trans hy')
      obtain ⟨s, hc, hys, _⟩ := DataW.trod_string he hf
      have hs : x = s := by
        rw [hys] at hyd
        simp only [DataW.lit.injEq, Lit.string.injEq] at hyd
        rw [← Lib.mk_data x, ← Lib.mk_data s, hyd]
      have h3 := congrArg (·[0]?) hc
      subst hs
      simpa [List.getElem?_take, List.getElem?_drop] using h3
    · cases h
theorem cells9 : Tryd.prog.cellsOf 9 = 1 := by kernel_rfl
theorem cellsW : Tryd.prog.cellsOf 46 = 15 := by kernel_rfl
theorem wordsGlob : Tryd.prog.globalNamed "highroad/codes.words" = some 0 := by kernel_rfl
theorem wordsType : (Tryd.prog.globals[0]?).map (·.type) = some 46 := by kernel_rfl
theorem tabW_of {W : World} (h : laidMet Tryd.prog [("highroad/codes.words", .agg (wordsL.map fun s => .lit (.string s.data.toList)))] W) : TabW W := by
  obtain ⟨ps, ⟨g', t', cs, fuel, p, q, hg', ht', hvar, hd, _, _⟩, _⟩ := h
  obtain rfl := Option.some.inj (wordsGlob.symm.trans hg')
  obtain rfl := Option.some.inj (wordsType.symm.trans ht')
  intro n hn
  have hl : wordsL[n]? = some (wordN n) := by
    unfold wordN
    rw [List.getD_eq_getElem?_getD]
    have : n < wordsL.length := hn
    rw [List.getElem?_eq_getElem this]
    rfl
  have h1 := strs_at Tryd.underlying46 Tryd.underlying9 cells9 cellsW hd n (wordN n) hl
  have h2 := World.var?_cell wordsGlob hvar n
  rw [Array.getElem?_toList] at h1
  have h3 : W.cell? ⟨0, n, none⟩ = cs[n]? := by simpa using h2
  exact h3.trans h1
theorem errGlob : Tryd.prog.globalNamed "errors.errorType" = some 1 := by kernel_rfl
theorem rtype : (Tryd.prog.cutTypes.find? (·.1 == "internal/reflectlite.rtype")).map (·.2) = some 75 := by kernel_rfl
theorem typesSize : Tryd.prog.types.size = 119 := by kernel_rfl
theorem oneRow : ((List.range 119).filter fun t => Tryd.prog.rowNamed t [101, 114, 114, 111, 114]) = [32] := by kernel_rfl
theorem errT_of {W : World} (h : handlesMet Tryd.prog [("errors.errorType", Rows.laid_errors_errorType)] W) : ErrT W := by
  obtain ⟨name, u, ty, e1, e2, e3, e4, e5⟩ := h _ (List.mem_singleton.2 rfl)
  have en : name = [101, 114, 114, 111, 114] := (Option.some.inj e1).symm
  subst en
  obtain rfl := Option.some.inj (rtype.symm.trans e2)
  have hm : ty ∈ (List.range 119).filter fun t => Tryd.prog.rowNamed t [101, 114, 114, 111, 114] := List.mem_filter.2 ⟨List.mem_range.2 (by rw [← typesSize]; exact e3), e4⟩
  rw [oneRow] at hm
  obtain rfl := List.mem_singleton.1 hm
  have hh : typeHandle Tryd.prog 32 = .pointer (some ⟨2, 32, none⟩) := by kernel_rfl
  rw [hh] at e5
  unfold ErrT
  simpa using World.var?_cell errGlob e5 0
/-- WHAT THE ROW's LIST GIVES. -/
theorem laid_both {W : World} (h : laidMetH Tryd.prog [("errors.errorType", Rows.laid_errors_errorType), ("highroad/codes.words", Rows.laid_highroad_codes_words)] W) : TabW W ∧ ErrT W := by
  have h' : laidMet Tryd.prog [("highroad/codes.words", Rows.laid_highroad_codes_words)] W ∧ handlesMet Tryd.prog [("errors.errorType", Rows.laid_errors_errorType)] W := h
  exact ⟨tabW_of h'.1, errT_of h'.2⟩
def strCells : DataW Unit → Array Value
  | .agg l => (l.map fun | .lit (.string s) => Value.string ⟨s.toArray⟩ | _ => undef).toArray
  | _ => #[]
def putErr : Obj → Obj
  | .cells _ t frozen => .cells #[.iface 75 (.agg #[.pointer (some ⟨2, 32, none⟩)])] t frozen
  | o => o
def putWords : Obj → Obj
  | .cells _ t frozen => .cells (strCells Rows.laid_highroad_codes_words) t frozen
  | o => o
/-- A WORLD FOR THE WITNESS: the settled one, both variables holding what the row lists. -/
noncomputable def laidWorld (os : Os) : World :=
  { World.holding Tryd.prog os ⟨#[], #[], []⟩ with heap := ((World.holding Tryd.prog os ⟨#[], #[], []⟩).heap.modify 1 putErr).modify 0 putWords }
end Go.Proofs.YtmhekahfgmmeaaaDoor
